/-
 Contracts of the program, and what they rest on.
-/
import Derived.Test.YtlpgphiccjkenaaGreatDoorM11
import Derived.Test.YtlpgphiccjkenaaGreatDoorM12
import Derived.Test.YtlpgphiccjkenaaGreatDoorM05
set_option maxRecDepth 100000
set_option maxHeartbeats 16000000
namespace Go.Proofs.YtlpgphiccjkenaaGreatDoor
open Go.RowKit
theorem mem_info0 : (Tryz.prog.info? 76).map (fun i => (i.zero, i.size, i.bytes)) = some (some (Value.agg #[.int .i64 0, .int .i64 0, .int .i64 0]), 3, 24) := by kernel_rfl
theorem mem_info : ∃ i0 : TypeInfo, Tryz.prog.info? 76 = some i0 ∧ i0.zero = some (Value.agg #[.int .i64 0, .int .i64 0, .int .i64 0]) ∧ i0.size = 3 ∧ i0.bytes = 24 := by
 have h := mem_info0
 cases hi : Tryz.prog.info? 76 with
 | none => rw [hi] at h; cases h
 | some i =>
  rw [hi] at h
  simp only [Option.map_some, Option.some.injEq, Prod.mk.injEq] at h
  exact ⟨i, rfl, h⟩
theorem mem_ins_shift (g cap n i vb : Nat) (cs vs : List Value) (TA : TypeId) (cur : Array Value) (w : World) (hg : w.heap[g]? = some (.cells cur 76 (0, 0))) (hroom : n + 1 ≤ cap) (hm : cap ≤ maxLen) (hs : cur.size = cap * 3) (ht : cur.toList.take (n * 3) = cs) (hi : i < n) (hn : n ≤ 1000000)
  (hv : w.heap[vb]? = some (.cells vs.toArray TA (0, 0))) (hvl : vs.length = 3) (h1c : ∀ u ∈ cs, u.oneCell' = true) (h1v : ∀ u ∈ vs, u.oneCell' = true) (hne : vb ≠ g) :
  Calls Tryz.prog 72 #[.slice (some ⟨g, 0, none⟩) n cap, .int .i64 i, .slice (some ⟨vb, 0, none⟩) 1 1] w fun e w' => e = .returned (.slice (some ⟨g, 0, none⟩) (n + 1) cap) ∧ w' = (w.drew.setCells g ((i + 1) * 3) (cs.drop (i * 3))).setCells g (i * 3) vs := by
 obtain ⟨i0, hi0, hz0, hz1, hz2⟩ := mem_info
 have hsz : (Tryz.prog.info? 76).map (·.size) = some 3 := by rw [hi0]; simp [hz1]
 obtain ⟨b1, b2, b3, b4, b5⟩ := block_facts hg
 obtain ⟨v1, v2, v3, v4, v5⟩ := block_facts hv
 have hcl : cs.length = n * 3 := by
  rw [← ht, List.length_take]
  have : cur.toList.length = cap * 3 := hs
  omega
 have hcs : ∀ j u, cs[j]? = some u → w.cell? ⟨g, j, none⟩ = some u := fun j u hj => by
  rw [← ht, List.getElem?_take] at hj
  split at hj
  ·exact b5 j u hj
  ·cases hj
 have hvs : ∀ j u, vs[j]? = some u → w.cell? ⟨vb, j, none⟩ = some u := fun j u hj => v5 j u (by simpa using hj)
 have hc63 : cap ≤ 9223372036854775807 := by unfold maxLen at hm; omega
 have hov : ∀ lb cb, (callFunc 127 #[.slice (some ⟨vb, 0, none⟩) 1 1, .slice (some ⟨g, (i + 1) * 3, none⟩) lb cb]).run Tryz.prog w = .ok (.value (.bool false)) w := fun lb cb => by
  rw [run_callFunc_extern Tryz.func127 (by kernel_rfl) (by kernel_rfl) (by kernel_rfl) (e := Extern.SlicesOverlaps.overlaps #[24, 24] #[4]) (by kernel_rfl),
   Lib.run_overlaps_apart w 24 4 76 Tryz.underlying24 3 Tryz.sizeOf76 ⟨vb, 0, none⟩ ⟨g, (i + 1) * 3, none⟩ 1 1 lb cb hne TA 76 vs.toArray.size cur.size v4 b4 (by omega) (v2 _) (v2 _)]
  rfl
 have hdl : (cs.drop (i * 3)).length = (n - i) * 3 := by rw [List.length_drop, hcl]; omega
 have mixed : Tryz.prog.follows .mixedOrders = true := by kernel_rfl
 have hz2 : ¬ ((i : Int) = (n : Int)) := by omega
 have hw1 : IntKind.i64.wrap ((i : Int) + 1) = (i : Int) + 1 := by rw [IntKind.wrap_i64]; omega
 have hb1 : (0 : Int) ≤ (i : Int) + 1 := by omega
 have hin : i ≤ n := by omega
 have hb2 : ¬ (cap = i + 1) := by omega
 have hb3 : (i : Int) ≤ (n : Int) + 1 := by omega
 have hb4 : ¬ (cap = i) := by omega
 have hcp1 : ∀ ty dc sc, (Builtin.copy_ #[24, 24] ty #[.slice (some ⟨g, (i + 1) * 3, none⟩) (n - i) dc, .slice (some ⟨g, i * 3, none⟩) (n + 1 - i) sc]).run Tryz.prog w.drew = .ok (goInt (Nat.min (n + 1 - i) (n - i))) (w.drew.setCells g ((i + 1) * 3) (cs.drop (i * 3))) := fun ty dc sc =>
  run_copy_cells_k w.drew _ _ ty 76 3 g ((i + 1) * 3) (n - i) dc ⟨g, i * 3, none⟩ (n + 1 - i) sc (cs.drop (i * 3)) Tryz.underlying24 hsz (by rw [hdl]; simp only [Nat.min_def]; split <;> omega)
   (fun j v hj => by rw [Addr.add_lit]; exact hcs (i * 3 + j) v (by rwa [List.getElem?_drop] at hj))
   (fun j hj => by rw [hdl] at hj; exact b1 _ (by omega)) (fun j hj => b2 _) (fun v hv => h1c v (List.mem_of_mem_drop hv))
 obtain ⟨W1, hW1⟩ : ∃ W1, W1 = w.drew.setCells g ((i + 1) * 3) (cs.drop (i * 3)) := ⟨_, rfl⟩
 have hcp2 : ∀ (W : World), (∀ x, W.cell? x = W1.cell? x) → (∀ x, W.frozen? x = W1.frozen? x) → ∀ ty dc, (Builtin.copy_ #[24, 24] ty #[.slice (some ⟨g, i * 3, none⟩) (n + 1 - i) dc, .slice (some ⟨vb, 0, none⟩) 1 1]).run Tryz.prog W = .ok (goInt (Nat.min 1 (n + 1 - i))) (W.setCells g (i * 3) vs) := fun W hWc hWf ty dc =>
  run_copy_cells_k W _ _ ty 76 3 g (i * 3) (n + 1 - i) dc ⟨vb, 0, none⟩ 1 1 vs Tryz.underlying24 hsz (by rw [hvl]; simp only [Nat.min_def]; split <;> omega)
   (fun j v hj => by
    rw [Addr.add_lit, hWc, hW1, World.cell?_setCells_out g _ _ _ _ (fun h _ => absurd h hne)]
    simpa using hvs j v hj)
   (fun j hj => by rw [hvl] at hj; rw [hWc, hW1]; exact World.isSome_setCells _ _ _ _ _ (b1 _ (by omega))) (fun j hj => by rw [hWf, hW1, World.frozen?_setCells]; exact b2 _) h1v
 rw [← hW1] at hcp1
 clear hcs hvs hdl b1 b2 b3 b4 b5 v1 v2 v3 v4 v5 hg hv hs ht h1c h1v hcl
 go_enter Tryz.func72, Tryz.ntmps72
 go_wp2_with (simp only [hov])
 go_region_law_o (refine step_copy_runI rfl _ _ 24 24 rfl _ _ (by simp [Act.eval, Act.put]) (by simp [Act.eval, Act.put]) (hcp1 _ _ _) ?_)
 go_wp2_with (at_builtin; refine wpList_copy_runI _ rfl _ _ 24 24 rfl _ _ rfl rfl (hcp2 _ (fun _ => rfl) (fun _ => rfl) _ _) ?_)
 go_ret
 first | exact ⟨rfl, rfl⟩ | exact ⟨rfl, by rw [hW1]⟩
theorem mem_ins_grow (g cap n i vb : Nat) (cs vs : List Value) (TA : TypeId) (cur : Array Value) (w : World) (hg : w.heap[g]? = some (.cells cur 76 (0, 0))) (hnc : n ≤ cap) (hroom : cap < n + 1) (hs : cur.size = cap * 3) (ht : cur.toList.take (n * 3) = cs) (hi : i < n) (hn : n ≤ 1000000)
  (hv : w.heap[vb]? = some (.cells vs.toArray TA (0, 0))) (hvl : vs.length = 3) (h1c : ∀ u ∈ cs, u.oneCell' = true) (h1v : ∀ u ∈ vs, u.oneCell' = true) :
  Calls Tryz.prog 72 #[.slice (some ⟨g, 0, none⟩) n cap, .int .i64 i, .slice (some ⟨vb, 0, none⟩) 1 1] w fun e w' => ∃ G ROW, n + 1 ≤ G ∧ G ≤ maxLen ∧ ROW.size = G * 3 ∧ ROW.toList.take (i * 3) = cs.take (i * 3) ∧ e = .returned (.slice (some ⟨w.heap.size, 0, none⟩) (n + 1) G) ∧
   w' = (((w.alloc (.cells ROW 76)).drew.setCells w.heap.size (i * 3) vs).drew).setCells w.heap.size ((i + 1) * 3) (cs.drop (i * 3)) := by
 obtain ⟨i0, hi0, hz0, hzs, hzb⟩ := mem_info
 have hsz : (Tryz.prog.info? 76).map (·.size) = some 3 := by rw [hi0]; simp [hzs]
 obtain ⟨b1, b2, hbw, b4, b5⟩ := block_facts hg
 obtain ⟨v1, v2, hvw, v4, v5⟩ := block_facts hv
 have hcl : cs.length = n * 3 := by
  rw [← ht, List.length_take]
  have : cur.toList.length = cap * 3 := hs
  omega
 have hcs : ∀ j u, cs[j]? = some u → w.cell? ⟨g, j, none⟩ = some u := fun j u hj => by
  rw [← ht, List.getElem?_take] at hj
  split at hj
  ·exact b5 j u hj
  ·cases hj
 have hvs : ∀ j u, vs[j]? = some u → w.cell? ⟨vb, j, none⟩ = some u := fun j u hj => v5 j u (by simpa using hj)
 have mixed : Tryz.prog.follows .mixedOrders = true := by kernel_rfl
 have hz2 : ¬ ((i : Int) = (n : Int)) := by omega
 have hz3 : (cap : Int) < (n : Int) + 1 := by omega
 have hw1 : IntKind.i64.wrap ((i : Int) + 1) = (i : Int) + 1 := by rw [IntKind.wrap_i64]; omega
 have hb1 : (0 : Int) ≤ (i : Int) + 1 := by omega
 have hin : i ≤ n := by omega
 have hkk : (n : Int) + 1 - (i : Int) = ((n + 1 - i : Nat) : Int) := by omega
 have hik : i + (n + 1 - i) = n + 1 := by omega
 have hold : (Builtin.firstCells i0.size i (.slice (some ⟨g, 0, none⟩) i cap)).run Tryz.prog w.drew = .ok (cs.take (i * 3)).toArray w.drew := by
  rw [hzs]
  exact run_firstCells_some w.drew 3 i ⟨g, 0, none⟩ i cap (cs.take (i * 3)) (by rw [List.length_take]; omega) (fun j v hj => by
   rw [Addr.add_lit, Nat.zero_add]
   rw [List.getElem?_take] at hj
   split at hj
   ·exact hcs j v hj
   ·cases hj)
 have hrz : ∀ ty, (Builtin.append_ #[24, 3] ty #[.slice (some ⟨g, 0, none⟩) i cap, .int .i64 ((n : Int) + 1 - (i : Int))]).run Tryz.prog w =
   .ok (.slice (some ⟨w.heap.size, 0, none⟩) (n + 1) (grownCap w (n + 1) cap 76)) (w.drew.alloc (.cells ((cs.take (i * 3)).toArray ++ Builtin.zeroCells (Value.agg #[.int .i64 0, .int .i64 0, .int .i64 0]).cells (n + 1 - i) ++ Builtin.zeroCells (Value.agg #[.int .i64 0, .int .i64 0, .int .i64 0]).cells (grownCap w (n + 1) cap 76 - (n + 1))) 76)) := fun ty => by
  have h := Lib.run_append_grow_zeros w 24 3 ty 76 i0 _ .i64 .i64 Tryz.underlying24 Tryz.underlying3 hi0 hz0 (some ⟨g, 0, none⟩) i cap (cs.take (i * 3)) hold (n + 1 - i) (by omega) (by omega) (by omega) (by omega) (by rw [hzb]; omega) (by rw [hzb, hik]; exact growslice_fits hroom (by omega))
  rw [hik] at h
  rw [hkk]
  exact h
 obtain ⟨G, hG⟩ : ∃ G, G = grownCap w (n + 1) cap 76 := ⟨_, rfl⟩
 obtain ⟨ROW, hROW⟩ : ∃ ROW : Array Value, ROW = (cs.take (i * 3)).toArray ++ Builtin.zeroCells (Value.agg #[.int .i64 0, .int .i64 0, .int .i64 0]).cells (n + 1 - i) ++ Builtin.zeroCells (Value.agg #[.int .i64 0, .int .i64 0, .int .i64 0]).cells (G - (n + 1)) := ⟨_, rfl⟩
 rw [← hG] at hrz
 rw [← hROW] at hrz
 have hGn : n + 1 ≤ G := by rw [hG]; exact grownCap_ge w _ _ _
 have hGm : G ≤ maxLen := by
  have := grownCap_le_maxLen w (n + 1) cap 76 (by unfold maxLen; omega)
  rw [← hG] at this
  exact this
 have hzc : (Value.agg #[.int .i64 0, .int .i64 0, .int .i64 0]).cells = #[.int .i64 0, .int .i64 0, .int .i64 0] := by kernel_rfl
 have hRs : ROW.size = G * 3 := by
  have : (cs.take (i * 3)).length = i * 3 := by rw [List.length_take, hcl]; omega
  rw [hROW]
  simp only [Array.size_append, List.size_toArray, this, hzc, Builtin.zeroCells]
  simp
  omega
 have hRt : ROW.toList.take (i * 3) = cs.take (i * 3) := by
  have : (cs.take (i * 3)).length = i * 3 := by rw [List.length_take, hcl]; omega
  rw [hROW, Array.toList_append, Array.toList_append, List.append_assoc]
  rw [List.take_append_of_le_length (by simp [hcl]; omega)]
  show List.take (i * 3) (cs.take (i * 3)) = _
  rw [List.take_take, Nat.min_self]
 obtain ⟨W1, hW1⟩ : ∃ W1, W1 = w.drew.alloc (.cells ROW 76) := ⟨_, rfl⟩
 rw [← hW1] at hrz
 have hN : ∀ j, j < (n + 1) * 3 → (W1.cell? ⟨w.heap.size, j, none⟩).isSome = true := fun j hj => by
  rw [hW1, World.cell?_alloc_at (w := w.drew) ROW _ w.heap.size j rfl, Array.getElem?_eq_getElem (by omega)]; rfl
 have hNf : ∀ j, W1.frozen? ⟨w.heap.size, j, none⟩ = false := fun j => by rw [hW1]; exact World.frozen?_alloc_at (w := w.drew) ROW _ w.heap.size j rfl
 have hOb : ∀ j v, w.cell? ⟨g, j, none⟩ = some v → W1.cell? ⟨g, j, none⟩ = some v := fun j v h => by rw [hW1, World.cell?_alloc_past (w := w.drew) _ g j hbw]; exact h
 have hOv : ∀ j v, w.cell? ⟨vb, j, none⟩ = some v → W1.cell? ⟨vb, j, none⟩ = some v := fun j v h => by rw [hW1, World.cell?_alloc_past (w := w.drew) _ vb j hvw]; exact h
 have hcpA : ∀ (W : World), (∀ x, W.cell? x = W1.cell? x) → (∀ x, W.frozen? x = W1.frozen? x) → ∀ ty dc, (Builtin.copy_ #[24, 24] ty #[.slice (some ⟨w.heap.size, i * 3, none⟩) (n + 1 - i) dc, .slice (some ⟨vb, 0, none⟩) 1 1]).run Tryz.prog W = .ok (goInt (Nat.min 1 (n + 1 - i))) (W.setCells w.heap.size (i * 3) vs) := fun W hWc hWf ty dc =>
  run_copy_cells_k W _ _ ty 76 3 w.heap.size (i * 3) (n + 1 - i) dc ⟨vb, 0, none⟩ 1 1 vs Tryz.underlying24 hsz (by rw [hvl]; simp only [Nat.min_def]; split <;> omega)
   (fun j v hj => by rw [Addr.add_lit, hWc, Nat.zero_add]; exact hOv _ v (hvs j v hj))
   (fun j hj => by rw [hvl] at hj; rw [hWc]; exact hN _ (by omega)) (fun j hj => by rw [hWf]; exact hNf _) h1v
 have hG63 : G ≤ 9223372036854775807 := by unfold maxLen at hGm; omega
 have hGi : ¬ (G = i) := by omega
 have hGim : ¬ (G = i + 1) := by omega
 have hci : ¬ (cap = i) := by omega
 have hbN : g ≠ w.heap.size := by omega
 have hdl : (cs.drop (i * 3)).length = (n - i) * 3 := by rw [List.length_drop, hcl]; omega
 have hcpB : ∀ (W : World), (∀ x, W.cell? x = (W1.setCells w.heap.size (i * 3) vs).cell? x) → (∀ x, W.frozen? x = (W1.setCells w.heap.size (i * 3) vs).frozen? x) → ∀ ty dc sc, (Builtin.copy_ #[24, 24] ty #[.slice (some ⟨w.heap.size, (i + 1) * 3, none⟩) (n - i) dc, .slice (some ⟨g, i * 3, none⟩) (n - i) sc]).run Tryz.prog W = .ok (goInt (Nat.min (n - i) (n - i))) (W.setCells w.heap.size ((i + 1) * 3) (cs.drop (i * 3))) := fun W hWc hWf ty dc sc =>
  run_copy_cells_k W _ _ ty 76 3 w.heap.size ((i + 1) * 3) (n - i) dc ⟨g, i * 3, none⟩ (n - i) sc (cs.drop (i * 3)) Tryz.underlying24 hsz (by rw [hdl]; simp only [Nat.min_def]; split <;> omega)
   (fun j v hj => by
    rw [Addr.add_lit, hWc, World.cell?_setCells_out _ _ _ _ _ (fun h _ => absurd h hbN)]
    exact hOb _ v (hcs (i * 3 + j) v (by rwa [List.getElem?_drop] at hj)))
   (fun j hj => by rw [hdl] at hj; rw [hWc]; exact World.isSome_setCells _ _ _ _ _ (hN _ (by omega)))
   (fun j hj => by rw [hWf, World.frozen?_setCells]; exact hNf _) (fun v hv => h1c v (List.mem_of_mem_drop hv))
 subst hW1
 have hE1 : ∀ x, ((w.alloc (.cells ROW 76)).drew).cell? x = (w.drew.alloc (.cells ROW 76)).cell? x := fun x => rfl
 have hE2 : ∀ x, ((w.alloc (.cells ROW 76)).drew).frozen? x = (w.drew.alloc (.cells ROW 76)).frozen? x := fun x => rfl
 have hF1 : ∀ x, (((w.alloc (.cells ROW 76)).drew.setCells w.heap.size (i * 3) vs).drew).cell? x = ((w.drew.alloc (.cells ROW 76)).setCells w.heap.size (i * 3) vs).cell? x := fun x => rfl
 have hF2 : ∀ x, (((w.alloc (.cells ROW 76)).drew.setCells w.heap.size (i * 3) vs).drew).frozen? x = ((w.drew.alloc (.cells ROW 76)).setCells w.heap.size (i * 3) vs).frozen? x := fun x => rfl
 clear hkk hik hold hN hNf hOb hOv hcs hvs hdl b1 b2 b4 b5 v1 v2 v4 v5 hg hv hs ht h1c h1v hcl hROW hG hzc
 go_enter Tryz.func72, Tryz.ntmps72
 go_wp2_with (at_builtin; refine Lib.wpList_append_run _ rfl _ _ _ _ rfl _ _ rfl rfl _ _ (hrz _) ?_)
 go_wp2_with (at_builtin; refine wpList_copy_runI _ rfl _ _ 24 24 rfl _ _ rfl rfl (hcpA _ hE1 hE2 _ _) ?_)
 go_region_law_o (refine step_copy_runI rfl _ _ 24 24 rfl (.slice (some ⟨w.heap.size, (i + 1) * 3, none⟩) (n - i) (G - (i + 1))) (.slice (some ⟨g, i * 3, none⟩) (n - i) (cap - i)) (by simp [Act.eval, Act.put]) (by simp [Act.eval, Act.put]) (hcpB _ hF1 hF2 3 (G - (i + 1)) (cap - i)) ?_)
 go_wp2
 go_ret
 exact ⟨G, ROW, hGn, hGm, hRs, hRt, rfl, rfl⟩
theorem row_drew {w : World} {B k n : Nat} {T : TypeId} {v : Value} {cs : List Value} (h : w.ownsRow B T k v n cs) : w.drew.ownsRow B T k v n cs := row_kept h (fun _ _ => rfl)
theorem drew_cells (b : Nat) : ∀ (vs : List Value) (o : Nat) (w : World), (w.setCells b o vs).drew = w.drew.setCells b o vs
 | [], _, _ => rfl
 | v :: r, o, w => by
  rw [World.setCells, World.setCells, drew_cells b r]
  rw [World.setCell_drew]
def InsAns (B : Nat) (T : TypeId) (k n : Nat) (v : Value) (cs : List Value) (w : World) (e : Ending) (w' : World) : Prop :=
 ∃ ad cap, e = .returned (.slice ad (n + 1) cap) ∧ w'.ownsRow B T k (.slice ad (n + 1) cap) (n + 1) cs ∧ Below B w w' ∧ (∀ j, j < w.heap.size → v.ownBlock ≠ some j → w'.heap[j]? = w.heap[j]?) ∧ ∀ j, (Value.slice ad (n + 1) cap).ownBlock = some j → v.ownBlock = some j ∨ w.heap.size ≤ j
theorem ins_ans {B k n : Nat} {T : TypeId} {v v' : Value} {cs : List Value} {w w' : World} (hB : B ≤ w.heap.size) (hv : ∀ j, v.ownBlock = some j → B ≤ j) (ho : w'.ownsRow B T k v' (n + 1) cs) (hg : w.grownBy w' v.ownBlock) (hl : v'.ownBlock = v.ownBlock ∨ v'.ownBlock = some w.heap.size) : InsAns B T k n v cs w (.returned v') w' := by
 obtain ⟨ad, cap, rfl⟩ := owns_shape4 ho
 refine ⟨ad, cap, rfl, ho, (Below.refl B w).grown hg hB hv, fun j hj hne => hg.block j hj (fun e => hne (by first | exact e | exact e.symm)), fun j hj => ?_⟩
 rcases hl with h | h
 ·rw [h] at hj; exact .inl hj
 ·rw [h] at hj; cases hj; exact .inr (Nat.le_refl _)
theorem ent_ins_end (B : Nat) (v : Value) (n vb : Nat) (cs vs : List Value) (TA : TypeId) (w : World) (h : w.ownsRow B 45 2 v n cs) (hn : n ≤ 1000000) (hv : w.heap[vb]? = some (.cells vs.toArray TA (0, 0))) (hvl : vs.length = 2) (h1v : ∀ u ∈ vs, u.oneCell' = true) (hB : B ≤ w.heap.size) :
  Calls Tryz.prog 122 #[v, .int .i64 n, .slice (some ⟨vb, 0, none⟩) 1 1] w (InsAns B 45 2 n v (cs ++ vs) w) := by
 obtain ⟨i0, hi, hz0, hz1, hz2⟩ := ent_info
 obtain ⟨_, _, _, _, b5⟩ := block_facts hv
 have hvs : Hid (∀ j u, vs[j]? = some u → w.cell? (Addr.add ⟨vb, 0, none⟩ j) = some u) := Lib.hid (fun j u hj => by rw [Addr.add_lit, Nat.zero_add]; exact b5 j u (by simpa using hj))
 have H1 := Lib.hid h1v
 have HV := Lib.hid (show vs.length = 1 * 2 from hvl)
 have HO := Lib.hid h
 have HOB := Lib.hid (owns_base h)
 clear b5 hv h1v hvl
 rcases h.2 with ⟨rfl, rfl⟩ | ⟨g, cap, cur, rfl, hbg, hg, h1, h2, h3, h4⟩
 ·clear h
  go_enter Tryz.func122, Tryz.ntmps122
  go_wp2_with (at_builtin; refine wpList_append_own_at _ rfl _ _ 23 rfl B 45 i0 _ 2 40 Tryz.underlying23 hi hz0 hz1 hz2 rfl (by decide) (.slice none 0 0) 0 cs rfl HO.out ⟨vb, 0, none⟩ 1 1 vs rfl HV.out hvs.out H1.out (by unfold maxLen; omega) (by omega) hB ?_)
  intro v' w1 hown hgrow _ hloc
  have HA := Lib.hid (ins_ans hB HOB.out hown hgrow hloc)
  clear hown hgrow hloc
  go_wp2_with fail
  go_ret
  exact HA.out
 ·clear h hg h3 h4
  by_cases hc : cap = n
  ·subst hc
   clear h1
   go_enter Tryz.func122, Tryz.ntmps122
   go_wp2_with (at_builtin; refine wpList_append_own_at _ rfl _ _ 23 rfl B 45 i0 _ 2 40 Tryz.underlying23 hi hz0 hz1 hz2 rfl (by decide) (.slice (some ⟨g, 0, none⟩) cap cap) cap cs rfl HO.out ⟨vb, 0, none⟩ 1 1 vs rfl HV.out hvs.out H1.out (by unfold maxLen; omega) (by omega) hB ?_)
   intro v' w1 hown hgrow _ hloc
   have HA := Lib.hid (ins_ans hB HOB.out hown hgrow hloc)
   clear hown hgrow hloc
   go_wp2_with fail
   go_ret
   exact HA.out
  ·have h63 : cap ≤ 9223372036854775807 := by unfold maxLen at h2; omega
   clear h2
   go_enter Tryz.func122, Tryz.ntmps122
   go_wp2_with (at_builtin; refine wpList_append_own_at _ rfl _ _ 23 rfl B 45 i0 _ 2 40 Tryz.underlying23 hi hz0 hz1 hz2 rfl (by decide) (.slice (some ⟨g, 0, none⟩) n cap) n cs rfl HO.out ⟨vb, 0, none⟩ 1 1 vs rfl HV.out hvs.out H1.out (by unfold maxLen; omega) (by omega) hB ?_)
   intro v' w1 hown hgrow _ hloc
   have HA := Lib.hid (ins_ans hB HOB.out hown hgrow hloc)
   clear hown hgrow hloc
   go_wp2_with fail
   go_ret
   exact HA.out
theorem ent_insert_p (B : Nat) (v : Value) (n i vb : Nat) (cs vs : List Value) (TA : TypeId) (w : World) (h : w.ownsRow B 45 2 v n cs) (hi : i ≤ n) (hn : n ≤ 1000000) (hv : w.heap[vb]? = some (.cells vs.toArray TA (0, 0))) (hvl : vs.length = 2) (h1c : ∀ u ∈ cs, u.oneCell' = true) (h1v : ∀ u ∈ vs, u.oneCell' = true) (hne : v.ownBlock ≠ some vb) (hB : B ≤ w.heap.size) :
  Calls Tryz.prog 122 #[v, .int .i64 i, .slice (some ⟨vb, 0, none⟩) 1 1] w (InsAns B 45 2 n v (cs.take (i * 2) ++ vs ++ cs.drop (i * 2)) w) := by
 have hcl : cs.length = n * 2 := h.1
 rcases Nat.lt_or_ge i n with hlt | hge
 ·rcases h.2 with ⟨_, h0⟩ | ⟨g, cap, cur, rfl, hbg, hg, h1, h2, h3, h4⟩
  ·omega
  ·have hgw : g < w.heap.size := (Array.getElem?_eq_some_iff.1 hg).1
   by_cases hroom : n + 1 ≤ cap
   ·refine (ent_ins_shift g cap n i vb cs vs TA cur w hg hroom h2 h3 h4 hlt hn hv hvl h1c h1v (fun e => hne (by rw [e]; rfl))).mono ?_
    rintro _ _ ⟨rfl, rfl⟩
    refine ⟨_, _, rfl, row_put_in (w := w.drew) hbg hg hroom h2 h3 h4 hlt hvl, below_cells hbg _ _ _ (below_cells hbg _ _ _ (Below.refl B w).drew), fun j hj hn => ?_, fun j hj => .inl hj⟩
    have hjg : j ≠ g := fun e => hn (by rw [e]; rfl)
    rw [only_setCells _ _ _ _ _ hjg, only_setCells _ _ _ _ _ hjg]
    rfl
   ·refine (ent_ins_grow g cap n i vb cs vs TA cur w hg h1 (by omega) h3 h4 hlt hn hv hvl h1c h1v).mono ?_
    rintro _ _ ⟨G, ROW, g1, g2, g3, g4, rfl, rfl⟩
    have hN : (w.alloc (.cells ROW 45)).drew.heap[w.heap.size]? = some (.cells ROW 45 (0, 0)) := heap_alloc_new w _
    refine ⟨_, _, rfl, ?_, ?_, fun j hj hn => ?_, fun j hj => .inr (by cases hj; exact Nat.le_refl _)⟩
    ·have h := row_put_new (w := (w.alloc (.cells ROW 45)).drew) (B := B) hB hN g1 g2 g3 g4 hcl hlt hvl
     rw [show ((((w.alloc (.cells ROW 45)).drew.setCells w.heap.size (i * 2) vs).drew).setCells w.heap.size ((i + 1) * 2) (cs.drop (i * 2))) = (((w.alloc (.cells ROW 45)).drew.setCells w.heap.size (i * 2) vs).setCells w.heap.size ((i + 1) * 2) (cs.drop (i * 2))).drew from (drew_cells _ _ _ _).symm]
     exact row_drew h
    ·exact below_cells hB _ _ _ (below_cells hB _ _ _ (((Below.refl B w).alloc hB _).drew)).drew
    ·have hjg : j ≠ w.heap.size := by omega
     rw [only_setCells _ _ _ _ _ hjg]
     show ((w.alloc (.cells ROW 45)).drew.setCells w.heap.size (i * 2) vs).heap[j]? = _
     rw [only_setCells _ _ _ _ _ hjg]
     exact heap_alloc_old _ _ hj
 ·obtain rfl : i = n := by omega
  rw [List.take_of_length_le (by omega), List.drop_eq_nil_of_le (by omega), List.append_nil]
  exact ent_ins_end B v i vb cs vs TA w h hn hv hvl h1v hB
theorem mem_ins_end (B : Nat) (v : Value) (n vb : Nat) (cs vs : List Value) (TA : TypeId) (w : World) (h : w.ownsRow B 76 3 v n cs) (hn : n ≤ 1000000) (hv : w.heap[vb]? = some (.cells vs.toArray TA (0, 0))) (hvl : vs.length = 3) (h1v : ∀ u ∈ vs, u.oneCell' = true) (hB : B ≤ w.heap.size) :
  Calls Tryz.prog 72 #[v, .int .i64 n, .slice (some ⟨vb, 0, none⟩) 1 1] w (InsAns B 76 3 n v (cs ++ vs) w) := by
 obtain ⟨i0, hi, hz0, hz1, hz2⟩ := mem_info
 obtain ⟨_, _, _, _, b5⟩ := block_facts hv
 have hvs : Hid (∀ j u, vs[j]? = some u → w.cell? (Addr.add ⟨vb, 0, none⟩ j) = some u) := Lib.hid (fun j u hj => by rw [Addr.add_lit, Nat.zero_add]; exact b5 j u (by simpa using hj))
 have H1 := Lib.hid h1v
 have HV := Lib.hid (show vs.length = 1 * 3 from hvl)
 have HO := Lib.hid h
 have HOB := Lib.hid (owns_base h)
 clear b5 hv h1v hvl
 rcases h.2 with ⟨rfl, rfl⟩ | ⟨g, cap, cur, rfl, hbg, hg, h1, h2, h3, h4⟩
 ·clear h
  go_enter Tryz.func72, Tryz.ntmps72
  go_wp2_with (at_builtin; refine wpList_append_own_at _ rfl _ _ 24 rfl B 76 i0 _ 3 24 Tryz.underlying24 hi hz0 hz1 hz2 rfl (by decide) (.slice none 0 0) 0 cs rfl HO.out ⟨vb, 0, none⟩ 1 1 vs rfl HV.out hvs.out H1.out (by unfold maxLen; omega) (by omega) hB ?_)
  intro v' w1 hown hgrow _ hloc
  have HA := Lib.hid (ins_ans hB HOB.out hown hgrow hloc)
  clear hown hgrow hloc
  go_wp2_with fail
  go_ret
  exact HA.out
 ·clear h hg h3 h4
  by_cases hc : cap = n
  ·subst hc
   clear h1
   go_enter Tryz.func72, Tryz.ntmps72
   go_wp2_with (at_builtin; refine wpList_append_own_at _ rfl _ _ 24 rfl B 76 i0 _ 3 24 Tryz.underlying24 hi hz0 hz1 hz2 rfl (by decide) (.slice (some ⟨g, 0, none⟩) cap cap) cap cs rfl HO.out ⟨vb, 0, none⟩ 1 1 vs rfl HV.out hvs.out H1.out (by unfold maxLen; omega) (by omega) hB ?_)
   intro v' w1 hown hgrow _ hloc
   have HA := Lib.hid (ins_ans hB HOB.out hown hgrow hloc)
   clear hown hgrow hloc
   go_wp2_with fail
   go_ret
   exact HA.out
  ·have h63 : cap ≤ 9223372036854775807 := by unfold maxLen at h2; omega
   clear h2
   go_enter Tryz.func72, Tryz.ntmps72
   go_wp2_with (at_builtin; refine wpList_append_own_at _ rfl _ _ 24 rfl B 76 i0 _ 3 24 Tryz.underlying24 hi hz0 hz1 hz2 rfl (by decide) (.slice (some ⟨g, 0, none⟩) n cap) n cs rfl HO.out ⟨vb, 0, none⟩ 1 1 vs rfl HV.out hvs.out H1.out (by unfold maxLen; omega) (by omega) hB ?_)
   intro v' w1 hown hgrow _ hloc
   have HA := Lib.hid (ins_ans hB HOB.out hown hgrow hloc)
   clear hown hgrow hloc
   go_wp2_with fail
   go_ret
   exact HA.out
theorem mem_insert_p (B : Nat) (v : Value) (n i vb : Nat) (cs vs : List Value) (TA : TypeId) (w : World) (h : w.ownsRow B 76 3 v n cs) (hi : i ≤ n) (hn : n ≤ 1000000) (hv : w.heap[vb]? = some (.cells vs.toArray TA (0, 0))) (hvl : vs.length = 3) (h1c : ∀ u ∈ cs, u.oneCell' = true) (h1v : ∀ u ∈ vs, u.oneCell' = true) (hne : v.ownBlock ≠ some vb) (hB : B ≤ w.heap.size) :
  Calls Tryz.prog 72 #[v, .int .i64 i, .slice (some ⟨vb, 0, none⟩) 1 1] w (InsAns B 76 3 n v (cs.take (i * 3) ++ vs ++ cs.drop (i * 3)) w) := by
 have hcl : cs.length = n * 3 := h.1
 rcases Nat.lt_or_ge i n with hlt | hge
 ·rcases h.2 with ⟨_, h0⟩ | ⟨g, cap, cur, rfl, hbg, hg, h1, h2, h3, h4⟩
  ·omega
  ·have hgw : g < w.heap.size := (Array.getElem?_eq_some_iff.1 hg).1
   by_cases hroom : n + 1 ≤ cap
   ·refine (mem_ins_shift g cap n i vb cs vs TA cur w hg hroom h2 h3 h4 hlt hn hv hvl h1c h1v (fun e => hne (by rw [e]; rfl))).mono ?_
    rintro _ _ ⟨rfl, rfl⟩
    refine ⟨_, _, rfl, row_put_in (w := w.drew) hbg hg hroom h2 h3 h4 hlt hvl, below_cells hbg _ _ _ (below_cells hbg _ _ _ (Below.refl B w).drew), fun j hj hn => ?_, fun j hj => .inl hj⟩
    have hjg : j ≠ g := fun e => hn (by rw [e]; rfl)
    rw [only_setCells _ _ _ _ _ hjg, only_setCells _ _ _ _ _ hjg]
    rfl
   ·refine (mem_ins_grow g cap n i vb cs vs TA cur w hg h1 (by omega) h3 h4 hlt hn hv hvl h1c h1v).mono ?_
    rintro _ _ ⟨G, ROW, g1, g2, g3, g4, rfl, rfl⟩
    have hN : (w.alloc (.cells ROW 76)).drew.heap[w.heap.size]? = some (.cells ROW 76 (0, 0)) := heap_alloc_new w _
    refine ⟨_, _, rfl, ?_, ?_, fun j hj hn => ?_, fun j hj => .inr (by cases hj; exact Nat.le_refl _)⟩
    ·have h := row_put_new (w := (w.alloc (.cells ROW 76)).drew) (B := B) hB hN g1 g2 g3 g4 hcl hlt hvl
     rw [show ((((w.alloc (.cells ROW 76)).drew.setCells w.heap.size (i * 3) vs).drew).setCells w.heap.size ((i + 1) * 3) (cs.drop (i * 3))) = (((w.alloc (.cells ROW 76)).drew.setCells w.heap.size (i * 3) vs).setCells w.heap.size ((i + 1) * 3) (cs.drop (i * 3))).drew from (drew_cells _ _ _ _).symm]
     exact row_drew h
    ·exact below_cells hB _ _ _ (below_cells hB _ _ _ (((Below.refl B w).alloc hB _).drew)).drew
    ·have hjg : j ≠ w.heap.size := by omega
     rw [only_setCells _ _ _ _ _ hjg]
     show ((w.alloc (.cells ROW 76)).drew.setCells w.heap.size (i * 3) vs).heap[j]? = _
     rw [only_setCells _ _ _ _ _ hjg]
     exact heap_alloc_old _ _ hj
 ·obtain rfl : i = n := by omega
  rw [List.take_of_length_le (by omega), List.drop_eq_nil_of_le (by omega), List.append_nil]
  exact mem_ins_end B v i vb cs vs TA w h hn hv hvl h1v hB
end Go.Proofs.YtlpgphiccjkenaaGreatDoor
