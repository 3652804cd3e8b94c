/-
  Contracts of the program, and what they rest on.
-/
import Derived.Test.YtaacdggjkfmehaaGreatDoorM18
import Derived.Test.YtaacdggjkfmehaaGreatDoorM07
import Derived.Test.YtaacdggjkfmehaaGreatDoorM12
import Derived.Deep.RegionHeld3
import Derived.Deep.AppendLies
namespace Go.Proofs.YtaacdggjkfmehaaGreatDoor
open Go.RowKit Go.Maps Go.Proofs.MapD Go.Proofs.Chest
def iv (l : List Int) : List Value := l.map fun x => Value.int .i64 x
def ccells (j : Nat) (v v' : Value) (s : Cs) : List Value :=
  .pointer (some ⟨j, 0, none⟩) :: .int .i64 s.r.ep :: v :: .int .i64 s.r.nw :: .int .i64 s.nx.ep :: v' :: .int .i64 s.nx.nw :: .int .i64 s.un :: (iv s.hd ++ [.int .i64 s.asks, .bool s.lost])
def CC (w : World) (x j : Nat) (v v' : Value) (s : Cs) : Prop := w.heap[x]? = some (.cells (ccells j v v' s).toArray 78 (0, 0)) ∧ s.hd.length = 6
theorem cell_block {w : World} {g k : Nat} {cur : Array Value} {T : TypeId} {fr : Nat × Nat} (h : w.heap[g]? = some (.cells cur T fr)) : w.cell? ⟨g, k, none⟩ = cur[k]? := by
  unfold World.cell?
  simp [h]
theorem frozen_block {w : World} {g k : Nat} {cur : Array Value} {T : TypeId} (h : w.heap[g]? = some (.cells cur T (0, 0))) : w.frozen? ⟨g, k, none⟩ = false := by
  unfold World.frozen?
  simp [h]
theorem set_block {w : World} {g k : Nat} {cur : Array Value} {T : TypeId} {fr : Nat × Nat} {u : Value} (h : w.heap[g]? = some (.cells cur T fr)) : (w.setCell ⟨g, k, none⟩ u).heap[g]? = some (.cells (cur.setIfInBounds k u) T fr) := by
  unfold World.setCell
  simp [Array.getElem?_modify, h]
theorem six {l : List Int} (h : l.length = 6) : ∃ a b c d e f, l = [a, b, c, d, e, f] := by
  match l, h with
  | [a, b, c, d, e, f], _ => exact ⟨a, b, c, d, e, f, rfl⟩
theorem CC.kept {w w' : World} {x j : Nat} {v v' : Value} {s : Cs} (h : CC w x j v v' s) (e : w'.heap[x]? = w.heap[x]?) : CC w' x j v v' s := ⟨e.trans h.1, h.2⟩
theorem CC.lt {w : World} {x j : Nat} {v v' : Value} {s : Cs} (h : CC w x j v v' s) : x < w.heap.size := (Array.getElem?_eq_some_iff.1 h.1).1
theorem CC.cells {w : World} {x j : Nat} {v v' : Value} {s : Cs} (h : CC w x j v v' s) :
    w.cell? ⟨x, 0, none⟩ = some (.pointer (some ⟨j, 0, none⟩)) ∧ w.cell? ⟨x, 1, none⟩ = some (.int .i64 s.r.ep) ∧ w.cell? ⟨x, 2, none⟩ = some v ∧ w.cell? ⟨x, 3, none⟩ = some (.int .i64 s.r.nw) ∧
    w.cell? ⟨x, 4, none⟩ = some (.int .i64 s.nx.ep) ∧ w.cell? ⟨x, 5, none⟩ = some v' ∧ w.cell? ⟨x, 6, none⟩ = some (.int .i64 s.nx.nw) ∧ w.cell? ⟨x, 7, none⟩ = some (.int .i64 s.un) ∧
    w.cell? ⟨x, 14, none⟩ = some (.int .i64 s.asks) ∧ w.cell? ⟨x, 15, none⟩ = some (.bool s.lost) := by
  obtain ⟨a, b, c, d, e, f, hl⟩ := six h.2
  have h0 := h.1
  unfold ccells at h0
  rw [hl] at h0
  refine ⟨?_, ?_, ?_, ?_, ?_, ?_, ?_, ?_, ?_, ?_⟩ <;> (rw [cell_block h0]; rfl)
theorem CC.hd {w : World} {x j : Nat} {v v' : Value} {s : Cs} (h : CC w x j v v' s) {k : Nat} (hk : k < 6) : w.cell? ⟨x, 8 + k, none⟩ = some (.int .i64 (s.hd.getD k 0)) := by
  obtain ⟨a, b, c, d, e, f, hl⟩ := six h.2
  have h0 := h.1
  unfold ccells at h0
  rw [hl] at h0 ⊢
  rw [cell_block h0]
  obtain rfl | rfl | rfl | rfl | rfl | rfl : k = 0 ∨ k = 1 ∨ k = 2 ∨ k = 3 ∨ k = 4 ∨ k = 5 := by omega
  all_goals rfl
theorem CC.free {w : World} {x j : Nat} {v v' : Value} {s : Cs} (h : CC w x j v v' s) (k : Nat) : w.frozen? ⟨x, k, none⟩ = false := frozen_block h.1
theorem CC.set {w : World} {x j : Nat} {v v' u u' : Value} {s s' : Cs} (h : CC w x j v v' s) (k : Nat) (y : Value) (hl : s'.hd.length = 6) (e : (ccells j v v' s).set k y = ccells j u u' s') : CC (w.setCell ⟨x, k, none⟩ y) x j u u' s' := by
  refine ⟨?_, hl⟩
  rw [set_block h.1, List.setIfInBounds_toArray, e]
theorem CC.un {w : World} {x j : Nat} {v v' : Value} {s : Cs} (h : CC w x j v v' s) (n : Int) : CC (w.setCell ⟨x, 7, none⟩ (.int .i64 n)) x j v v' ⟨s.r, s.nx, n, s.hd, s.asks, s.lost⟩ := h.set 7 _ h.2 rfl
theorem CC.asks {w : World} {x j : Nat} {v v' : Value} {s : Cs} (h : CC w x j v v' s) (n : Int) : CC (w.setCell ⟨x, 14, none⟩ (.int .i64 n)) x j v v' ⟨s.r, s.nx, s.un, s.hd, n, s.lost⟩ := by
  refine h.set 14 _ h.2 ?_
  obtain ⟨a, b, c, d, e, f, hl⟩ := six h.2
  unfold ccells
  dsimp only
  rw [hl]
  rfl
theorem CC.lostS {w : World} {x j : Nat} {v v' : Value} {s : Cs} (h : CC w x j v v' s) (n : Bool) : CC (w.setCell ⟨x, 15, none⟩ (.bool n)) x j v v' ⟨s.r, s.nx, s.un, s.hd, s.asks, n⟩ := by
  refine h.set 15 _ h.2 ?_
  obtain ⟨a, b, c, d, e, f, hl⟩ := six h.2
  unfold ccells
  dsimp only
  rw [hl]
  rfl
theorem CC.hear {w : World} {x j : Nat} {v v' : Value} {s : Cs} (h : CC w x j v v' s) {k : Nat} (hk : k < 6) (n : Int) : CC (w.setCell ⟨x, 8 + k, none⟩ (.int .i64 n)) x j v v' ⟨s.r, s.nx, s.un, s.hd.set k n, s.asks, s.lost⟩ := by
  refine h.set (8 + k) _ (by simpa using h.2) ?_
  obtain ⟨a, b, c, d, e, f, hl⟩ := six h.2
  unfold ccells
  dsimp only
  rw [hl]
  obtain rfl | rfl | rfl | rfl | rfl | rfl : k = 0 ∨ k = 1 ∨ k = 2 ∨ k = 3 ∨ k = 4 ∨ k = 5 := by omega
  all_goals rfl
theorem CC.roster {w : World} {x j : Nat} {v v' : Value} {s : Cs} (h : CC w x j v v' s) (r : Ro) (u : Value) : CC (((w.setCell ⟨x, 1, none⟩ (.int .i64 r.ep)).setCell ⟨x, 2, none⟩ u).setCell ⟨x, 3, none⟩ (.int .i64 r.nw)) x j u v' ⟨r, s.nx, s.un, s.hd, s.asks, s.lost⟩ := by
  have h1 := h.set (u := v) (u' := v') (s' := ⟨⟨r.ep, s.r.l, s.r.nw⟩, s.nx, s.un, s.hd, s.asks, s.lost⟩) 1 (.int .i64 r.ep) h.2 rfl
  have h2 := h1.set (u := u) (u' := v') (s' := ⟨⟨r.ep, s.r.l, s.r.nw⟩, s.nx, s.un, s.hd, s.asks, s.lost⟩) 2 u h.2 rfl
  exact h2.set (u := u) (u' := v') (s' := ⟨r, s.nx, s.un, s.hd, s.asks, s.lost⟩) 3 (.int .i64 r.nw) h.2 rfl
theorem CC.next {w : World} {x j : Nat} {v v' : Value} {s : Cs} (h : CC w x j v v' s) (r : Ro) (u : Value) : CC (((w.setCell ⟨x, 4, none⟩ (.int .i64 r.ep)).setCell ⟨x, 5, none⟩ u).setCell ⟨x, 6, none⟩ (.int .i64 r.nw)) x j v u ⟨s.r, r, s.un, s.hd, s.asks, s.lost⟩ := by
  have h1 := h.set (u := v) (u' := v') (s' := ⟨s.r, ⟨r.ep, s.nx.l, s.nx.nw⟩, s.un, s.hd, s.asks, s.lost⟩) 4 (.int .i64 r.ep) h.2 rfl
  have h2 := h1.set (u := v) (u' := u) (s' := ⟨s.r, ⟨r.ep, s.nx.l, s.nx.nw⟩, s.un, s.hd, s.asks, s.lost⟩) 5 u h.2 rfl
  exact h2.set (u := v) (u' := u) (s' := ⟨s.r, r, s.un, s.hd, s.asks, s.lost⟩) 6 (.int .i64 r.nw) h.2 rfl
theorem IsAt.keep {w w' : World} {v : Value} {l : List Int} (h : IsAt w v l) (hk : ∀ g, v.ownBlock = some g → w'.heap[g]? = w.heap[g]?) : IsAt w' v l := by
  rcases h with h | ⟨g, o, cap, rfl, h1, h2, h3, h4⟩
  · exact .inl h
  · have e := hk g rfl
    refine .inr ⟨g, o, cap, rfl, h1, h2, ?_, h4.kept e⟩
    rw [Array.getElem?_eq_getElem h3] at e
    exact (Array.getElem?_eq_some_iff.1 e).1
theorem IsAt.lt {w : World} {v : Value} {l : List Int} (h : IsAt w v l) {g : Nat} (hg : v.ownBlock = some g) : g < w.heap.size := by
  rcases h with ⟨rfl, _⟩ | ⟨g', o, cap, rfl, h1, h2, h3, h4⟩
  · cases hg
  · obtain rfl : g' = g := Option.some.inj hg
    exact h3
def CkRep (w : World) (x j : Nat) (v v' : Value) (s : Cs) (F : List Nat) : Prop :=
  CC w x j v v' s ∧ IsAt w v s.r.l ∧ IsAt w v' s.nx.l ∧ v.ownBlock ≠ some x ∧ v'.ownBlock ≠ some x ∧ F = x :: (v.ownBlock.toList ++ v'.ownBlock.toList)
def cx (x j : Nat) (v v' : Value) (s : Cs) : It where
  p w F := CkRep w x j v v' s F
  kept := fun ⟨h1, h2, h3, h4, h5, e⟩ hk => ⟨h1.kept (hk _ (by simp [e])), h2.keep (fun g hg => hk g (by simp [e, hg])), h3.keep (fun g hg => hk g (by simp [e, hg])), h4, h5, e⟩
  lt := fun ⟨h1, h2, h3, h4, h5, e⟩ k hk => by
    rw [e] at hk
    rcases List.mem_cons.1 hk with rfl | hk
    · exact h1.lt
    rcases List.mem_append.1 hk with hk | hk
    · exact h2.lt (by simpa using hk)
    · exact h3.lt (by simpa using hk)
def RH (w : World) (b : Nat) (e : Int) (v : Value) (n : Int) : Prop := w.heap[b]? = some (.cells #[.int .i64 e, v, .int .i64 n] 24 (0, 0))
theorem RH.rc {w : World} {b : Nat} {e n : Int} {v : Value} (h : RH w b e v n) : RC w b e v n :=
  ⟨⟨by rw [cell_block h]; rfl, by rw [cell_block h]; rfl, by rw [cell_block h]; rfl⟩, frozen_block h, frozen_block h, frozen_block h⟩
theorem RH.lt {w : World} {b : Nat} {e n : Int} {v : Value} (h : RH w b e v n) : b < w.heap.size := (Array.getElem?_eq_some_iff.1 h).1
theorem RH.put {w : World} {b : Nat} {e0 n0 : Int} {v0 : Value} (h : RH w b e0 v0 n0) (e n : Int) (v : Value) : RH (((w.setCell ⟨b, 0, none⟩ (.int .i64 e)).setCell ⟨b, 1, none⟩ v).setCell ⟨b, 2, none⟩ (.int .i64 n)) b e v n := by
  have h1 := set_block (u := .int .i64 e) (k := 0) h
  have h2 := set_block (u := v) (k := 1) h1
  exact set_block (u := .int .i64 n) (k := 2) h2
def rx (b : Nat) (e : Int) (v : Value) (n : Int) : It where
  p w F := RH w b e v n ∧ F = [b]
  kept := fun ⟨h, e⟩ hk => ⟨(hk _ (by simp [e])).trans h, e⟩
  lt := fun ⟨h, e⟩ k hk => by
    rw [e] at hk
    obtain rfl : k = _ := by simpa using hk
    exact h.lt
def ix (v : Value) (l : List Int) : It where
  p w F := IsAt w v l ∧ F = v.ownBlock.toList
  kept := fun ⟨h, e⟩ hk => ⟨h.keep (fun g hg => hk g (by simp [e, hg])), e⟩
  lt := fun ⟨h, e⟩ k hk => h.lt (g := k) (by rw [e] at hk; simpa using hk)
section
variable {w0 w : World} {x j : Nat} {v v' : Value} {s : Cs} {L : List It}
theorem Sp.ck (h : Sp w0 w (cx x j v v' s :: L)) : CC w x j v v' s ∧ IsAt w v s.r.l ∧ IsAt w v' s.nx.l := by
  obtain ⟨F, h1, h2, h3, _⟩ := h.get
  exact ⟨h1, h2, h3⟩
theorem Sp.rx {b : Nat} {e n : Int} (h : Sp w0 w (rx b e v n :: L)) : RH w b e v n := by
  obtain ⟨F, h1, _⟩ := h.get
  exact h1
theorem Sp.ix {l : List Int} (h : Sp w0 w (ix v l :: L)) : IsAt w v l := by
  obtain ⟨F, h1, _⟩ := h.get
  exact h1
theorem Sp.rxNew (h : Sp w0 w L) (e n : Int) (v : Value) : Sp w0 (w.alloc (.cells #[.int .i64 e, v, .int .i64 n] 24)) (Go.Proofs.YtaacdggjkfmehaaGreatDoor.rx w.heap.size e v n :: L) :=
  h.new ((Below.refl _ _).alloc (Nat.le_refl _) _) ⟨[w.heap.size], ⟨heap_alloc_new w _, rfl⟩, by simp⟩
theorem Sp.ixNew {l : List Int} {w' : World} (h : Sp w0 w L) (hb : Below w.heap.size w w') (hv : IsAt w' v l) (hn : ∀ g, v.ownBlock = some g → w.heap.size ≤ g) : Sp w0 w' (Go.Proofs.YtaacdggjkfmehaaGreatDoor.ix v l :: L) :=
  h.new hb ⟨v.ownBlock.toList, ⟨hv, rfl⟩, fun k hk => hn k (by simpa using hk)⟩
theorem Sp.ixNil (h : Sp w0 w L) : Sp w0 w (Go.Proofs.YtaacdggjkfmehaaGreatDoor.ix (.slice none 0 0) [] :: L) := h.ixNew (Below.refl _ _) (.inl ⟨rfl, rfl⟩) (by intro g hg; cases hg)
theorem Sp.ckTurn (h : Sp w0 w (cx x j v v' s :: L)) (w' : World) (s' : Cs) (u u' : Value) (g1 : CC w' x j u u' s') (g2 : IsAt w' u s'.r.l) (g3 : IsAt w' u' s'.nx.l)
    (g4 : ∀ g, u.ownBlock = some g → v.ownBlock = some g ∨ v'.ownBlock = some g ∨ w.heap.size ≤ g)
    (g5 : ∀ g, u'.ownBlock = some g → v.ownBlock = some g ∨ v'.ownBlock = some g ∨ w.heap.size ≤ g)
    (g6 : Only [x] w w') : Sp w0 w' (cx x j u u' s' :: L) := by
  obtain ⟨F, ⟨h1, h2, h3, h4, h5, e⟩, _, k⟩ := h.turn
  have hx := h1.lt
  have hin : ∀ g, (v.ownBlock = some g ∨ v'.ownBlock = some g ∨ w.heap.size ≤ g) → (g ∈ F ∨ w.heap.size ≤ g) ∧ g ≠ x := by
    rintro g (hg | hg | hg)
    · exact ⟨.inl (by simp [e, hg]), fun hh => h4 (hh ▸ hg)⟩
    · exact ⟨.inl (by simp [e, hg]), fun hh => h5 (hh ▸ hg)⟩
    · exact ⟨.inr hg, by omega⟩
  refine k (cx x j u u' s') w' ⟨x :: (u.ownBlock.toList ++ u'.ownBlock.toList), ⟨g1, g2, g3, fun hh => (hin x (g4 x hh)).2 rfl, fun hh => (hin x (g5 x hh)).2 rfl, rfl⟩, fun i hi => ?_, g6.mono (by simp [e])⟩
  rcases List.mem_cons.1 hi with rfl | hi
  · exact .inl (by simp [e])
  rcases List.mem_append.1 hi with hi | hi
  · exact (hin i (g4 i (by simpa using hi))).1
  · exact (hin i (g5 i (by simpa using hi))).1
theorem Sp.ckSame (h : Sp w0 w (cx x j v v' s :: L)) {w' : World} {s' : Cs} (g1 : CC w' x j v v' s') (e1 : s'.r.l = s.r.l) (e2 : s'.nx.l = s.nx.l) (g6 : Only [x] w w') : Sp w0 w' (cx x j v v' s' :: L) := by
  obtain ⟨F, h1, h2, h3, h4, h5, e⟩ := h.get
  have hk : ∀ u l, IsAt w u l → u.ownBlock ≠ some x → IsAt w' u l := fun u l hu hne => hu.keep (fun g hg => g6.block g (hu.lt hg) (by simp; rintro rfl; exact hne hg))
  exact h.ckTurn w' s' v v' g1 (by rw [e1]; exact hk _ _ h2 h4) (by rw [e2]; exact hk _ _ h3 h5) (fun g hg => .inl hg) (fun g hg => .inr (.inl hg)) g6
theorem Sp.ckRows (h : Sp w0 w (cx x j v v' s :: L)) : v.ownBlock ≠ some x ∧ v'.ownBlock ≠ some x := by
  obtain ⟨F, h1, h2, h3, h4, h5, e⟩ := h.get
  exact ⟨h4, h5⟩
theorem Sp.ckNew (h : Sp w0 w L) {w' : World} (hb : Below w.heap.size w w') (h1 : CC w' x j v v' s) (h2 : IsAt w' v s.r.l) (h3 : IsAt w' v' s.nx.l) (hx : w.heap.size ≤ x) (h4 : ∀ g, v.ownBlock = some g → w.heap.size ≤ g ∧ g ≠ x) (h5 : ∀ g, v'.ownBlock = some g → w.heap.size ≤ g ∧ g ≠ x) : Sp w0 w' (cx x j v v' s :: L) := by
  refine h.new hb ⟨x :: (v.ownBlock.toList ++ v'.ownBlock.toList), ⟨h1, h2, h3, fun hh => (h4 x hh).2 rfl, fun hh => (h5 x hh).2 rfl, rfl⟩, fun i hi => ?_⟩
  rcases List.mem_cons.1 hi with rfl | hi
  · exact hx
  rcases List.mem_append.1 hi with hi | hi
  · exact (h4 i (by simpa using hi)).1
  · exact (h5 i (by simpa using hi)).1
end
end Go.Proofs.YtaacdggjkfmehaaGreatDoor
namespace Go.Proofs.YtaacdggjkfmehaaGreatDoor
open Go.RowKit Go.Maps Go.Proofs.MapD Go.Proofs.Chest
set_option maxRecDepth 100000 in
set_option maxHeartbeats 4000000 in
theorem clone_ints {w : World} {v : Value} {l : List Int} (h : IsAt w v l) (hl : l.length ≤ 1000000) :
    Calls Tryz.prog 61 #[v] w fun x w' => ∃ ad cap, x = .returned (.slice ad l.length cap) ∧ IOwn w' w.heap.size (.slice ad l.length cap) l ∧ Below w.heap.size w w' := by
  rcases h with ⟨rfl, rfl⟩ | ⟨g, o, cap, rfl, hlc, hcm, hgw, hc⟩
  · have hq : ∀ w, (binOp .eql 22 (.slice none 0 0) (.slice none 0 0)).run Tryz.prog w = .ok (.bool true) w := fun w => by kernel_rfl
    go_enter Tryz.func61, Tryz.ntmps61
    go_wp2_with fail
    go_ret
    exact ⟨none, 0, rfl, IOwn.nil _ _, Below.refl _ _⟩
  · obtain ⟨i0, hi, hz0, hz1, hz2⟩ := int_info
    have hb1 : Below w.heap.size w (w.alloc (.cells #[] 3)) := (Below.refl _ _).alloc (Nat.le_refl _) _
    have hown : (w.alloc (.cells #[] 3)).ownsRow w.heap.size 3 1 (.slice (some ⟨w.heap.size, 0, none⟩) 0 0) 0 [] := by
      refine ⟨rfl, .inr ⟨w.heap.size, 0, #[], rfl, Nat.le_refl _, heap_alloc_new w _, Nat.le_refl _, by unfold maxLen; omega, rfl, rfl⟩⟩
    have HO := Lib.hid hown
    have HN := Lib.hid ((hc.kept (hb1.block g hgw)).cells)
    have H1 := Lib.hid (icells_one l)
    have HB := Lib.hid hb1
    have HL := Lib.hid hl
    have hcl := Lib.hid (icells_length l)
    have hq : ∀ w, (binOp .eql 22 (.slice (some ⟨g, o, none⟩) l.length cap) (.slice none 0 0)).run Tryz.prog w = .ok (.bool false) w := fun w => by kernel_rfl
    clear hown hb1 hc hlc hcm hgw hl
    go_enter Tryz.func61, Tryz.ntmps61
    go_wp2_with (at_builtin; refine wpList_append_own_at _ rfl (.tmp 5) (.tmp 6) 22 rfl w.heap.size 3 i0 _ 1 8 Tryz.underlying22 hi hz0 hz1 hz2 rfl (by decide) (.slice (some ⟨w.heap.size, 0, none⟩) 0 0) 0 [] rfl HO.out ⟨g, o, none⟩ l.length cap (icells l) rfl hcl.out HN.out H1.out (by have := HL.out; unfold maxLen; omega) (by have := HL.out; omega) HB.out.size ?_; intro v' w1 ho hg1 hn1 hl1; have HR := Lib.hid (And.intro ho hg1); clear ho hg1 hn1 hl1)
    go_ret
    obtain ⟨ho, hg1⟩ := HR.out
    rw [Nat.zero_add, List.nil_append] at ho
    have ho : IOwn w1 w.heap.size v' l := ho
    obtain ⟨ad, c1, rfl⟩ := ho.shape
    refine ⟨ad, c1, rfl, ho, HB.out.grown hg1 HB.out.size (fun k hk => ?_)⟩
    obtain rfl := Option.some.inj hk
    exact Nat.le_refl _
theorem leased_p (now : Int) (h0 : 0 ≤ now) (h1 : now ≤ 4611686018427387904) (w : World) :
    Calls Tryz.prog 26 #[.int .i64 now] w fun e w' => e = .returned (.int .i64 (now + 6)) ∧ w' = w := by
  have h2 : now ≤ 9223372036854775801 := by omega
  have h3 : min now 9223372036854775801 = now := by omega
  have h4 : IntKind.i64.wrap (now + 6) = now + 6 := IntWalk.i64_in _ (by omega)
  clear h0 h1
  go_enter Tryz.func26, Tryz.ntmps26
  go_wp2_with fail
  go_ret
  first | exact ⟨rfl, rfl⟩ | (simp only [h3, h4]; exact ⟨rfl, rfl⟩)
set_option maxRecDepth 100000 in
set_option maxHeartbeats 4000000 in
theorem ccopied_p (e nw : Int) (v : Value) (l : List Int) (w : World) (h : IsAt w v l) (hn : l.length ≤ 1000000) :
    Calls Tryz.prog 29 #[.agg #[.int .i64 e, v, .int .i64 nw]] w fun r w' => ∃ ad cap, r = .returned (.agg #[.int .i64 e, .slice ad l.length cap, .int .i64 nw]) ∧ IOwn w' w.heap.size (.slice ad l.length cap) l ∧ Below w.heap.size w w' := by
  obtain ⟨ad, cap, rfl, _⟩ := h.shape
  have HT := Lib.hid (twoB_new w e nw ad cap l h)
  have HC := Lib.hid (clone_ints HT.out.v hn)
  clear h
  go_enter Tryz.func29, Tryz.ntmps29
  go_wp2_with fail
  generalize ((w.alloc (.cells #[.int .i64 e, .slice ad l.length cap, .int .i64 nw] 24)).alloc (.cells #[.int .i64 0, .slice none 0 0, .int .i64 0] 24)) = W at *
  obtain ⟨⟨b0, b1, b2⟩, g0, g1, g2⟩ := HT.out.a
  go_wp2_with fail
  clear b0 b1 b2 g0 g1 g2
  refine HC.out.mono ?_
  rintro _ w1 ⟨a1, c1, rfl, ho, hb⟩
  have HZ := Lib.hid (HT.out.below hb)
  have HO := Lib.hid (ho.mono (show w.heap.size ≤ W.heap.size from HT.out.b.size))
  have HLT := Lib.hid (fun j hj => (ho.lt (g := j) hj).1)
  have HSZ := Lib.hid (show w.heap.size + 1 < W.heap.size from HT.out.z.lt)
  clear ho hb HC HT
  obtain ⟨⟨b0, b1, b2⟩, g0, g1, g2⟩ := HZ.out.a
  obtain ⟨⟨d0, d1, d2⟩, f0, f1, f2⟩ := HZ.out.z
  go_wp2_with fail
  have hA : RC (w1.setCell ⟨w.heap.size, 1, none⟩ (.slice a1 l.length c1)) w.heap.size e (.slice a1 l.length c1) nw := ⟨⟨by go_simp, by go_simp, by go_simp⟩, by go_simp, by go_simp, by go_simp⟩
  have hb1 : Below w.heap.size w (w1.setCell ⟨w.heap.size, 1, none⟩ (.slice a1 l.length c1)) := HZ.out.b.setCell (p := ⟨w.heap.size, 1, none⟩) (Nat.le_refl _) (.slice a1 l.length c1)
  have hz1 : RC (w1.setCell ⟨w.heap.size, 1, none⟩ (.slice a1 l.length c1)) (w.heap.size + 1) 0 (.slice none 0 0) 0 := HZ.out.z.kept (Below.heap_setCell _ _ _ _ (by simp))
  have ho1 : IOwn (w1.setCell ⟨w.heap.size, 1, none⟩ (.slice a1 l.length c1)) w.heap.size (.slice a1 l.length c1) l := HO.out.kept (fun j hj => Below.heap_setCell _ _ _ _ (by have := HLT.out j hj; have := HSZ.out; simp; omega))
  have hF := box_facts (W := w1.setCell ⟨w.heap.size, 1, none⟩ (.slice a1 l.length c1)) (e0 := e) (ad0 := a1) (m0 := l.length) (cap0 := c1) (nw0 := nw) (l0 := l) ⟨hA, hz1, ho1.at, hb1⟩ e nw a1 l.length c1
  dsimp only at hF
  obtain ⟨t0, t1, t2, hB3, hk⟩ := hF
  exact bodyPost_ret (v := .agg #[.int .i64 e, .slice a1 l.length c1, .int .i64 nw]) (by simp [results, Tryz.results29, go_sem, t0, t1, t2]) rfl ⟨_, _, rfl, ho1.kept (fun j hj => hk j (by have := HLT.out j hj; have := HSZ.out; omega)), hB3⟩
set_option maxRecDepth 100000 in
theorem cnum_p (n : Int) (w : World) :
    Calls Tryz.prog 87 #[.int .i64 n] w fun e w' => e = .returned (.agg #[.int .i64 1, .int .i64 n, .string ⟨#[]⟩, .slice none 0 0]) ∧ Below w.heap.size w w' := by
  go_enter Tryz.func87, Tryz.ntmps87
  go_wp2_with fail
  exact bodyPost_ret (v := .agg #[.int .i64 1, .int .i64 n, .string ⟨#[]⟩, .slice none 0 0]) (by simp [results, Tryz.results87, go_sem]) (by first | exact rfl | exact trivial) ⟨by first | exact rfl | exact trivial, (Below.refl _ _).alloc (Nat.le_refl _) _⟩
def xcells : List Int → List Value
  | [] => []
  | n :: l => .int .i64 1 :: .int .i64 n :: .string ⟨#[]⟩ :: .slice none 0 0 :: xcells l
theorem xcells_snoc : ∀ (l : List Int) (n : Int), xcells (l ++ [n]) = xcells l ++ [.int .i64 1, .int .i64 n, .string ⟨#[]⟩, .slice none 0 0]
  | [], _ => rfl
  | _ :: l, n => by simp only [xcells, List.cons_append, xcells_snoc l n]
theorem xcells_rep (w : World) (A : Nat → Prop) : ∀ l : List Int, RepX w A (xcells l) (numsF l)
  | [] => rfl
  | _ :: l => ⟨none, 0, xcells l, rfl, .inl rfl, xcells_rep w A l⟩
structure TxR (w : World) (ns : List Int) (n : Nat) (la : Option Addr) (lc : Nat) (wr : World) : Prop where
  own : wr.ownsRow (w.heap.size + 1) 121 4 (.slice la n lc) n (xcells ns)
  len : ns.length = n
  bl : Below w.heap.size w wr
  ge : w.heap.size + 1 ≤ wr.heap.size
theorem TxR.rep {w wr : World} {ns : List Int} {n : Nat} {la : Option Addr} {lc : Nat} (h : TxR w ns n la lc wr) : RepS wr la (numsF ns) := by
  obtain rfl := h.len
  have ho := h.own
  rw [← numsF_len ns] at ho
  exact (owns_repG (A' := fun _ => True) ho (xcells_rep wr (fun _ => True) ns) (fun _ _ => trivial) (fun _ _ => trivial)).repS
theorem TxR.start (w y : World) (a b : Int) (hb : Below w.heap.size w y) (hge : w.heap.size + 1 ≤ y.heap.size) :
    TxR w [a, b] 2 (some ⟨y.heap.size, 0, none⟩) 2 (y.alloc (.cells #[.int .i64 1, .int .i64 a, .string ⟨#[]⟩, .slice none 0 0, .int .i64 1, .int .i64 b, .string ⟨#[]⟩, .slice none 0 0] 121)) := by
  refine ⟨⟨rfl, .inr ⟨y.heap.size, 2, _, rfl, hge, heap_alloc_new y _, Nat.le_refl 2, by unfold maxLen; omega, rfl, rfl⟩⟩, rfl, hb.alloc hb.size _, by simp; omega⟩
theorem TxR.step {w wr w2 w3 : World} {ns : List Int} {n : Nat} {la : Option Addr} {lc : Nat} {x : Int} {v' : Value} {t : TypeId} (h : TxR w ns n la lc wr) (hb : Below wr.heap.size wr w2)
    (hown : w3.ownsRow (w.heap.size + 1) 121 4 v' (n + 1) (xcells ns ++ [.int .i64 1, .int .i64 x, .string ⟨#[]⟩, .slice none 0 0])) (hgrow : (w2.alloc (.cells #[.int .i64 1, .int .i64 x, .string ⟨#[]⟩, .slice none 0 0] t)).grownBy w3 (Value.slice la n lc).ownBlock) :
    ∃ la' lc', v' = .slice la' (n + 1) lc' ∧ TxR w (ns ++ [x]) (n + 1) la' lc' w3 := by
  obtain ⟨la', lc', rfl⟩ := owns_shape4 hown
  have hnb := owns_base h.own
  have hge := h.ge
  have hs2 := hb.size
  refine ⟨la', lc', rfl, by rw [xcells_snoc]; exact hown, by simp [h.len], ?_, ?_⟩
  · exact ((h.bl.trans (hb.mono h.bl.size)).alloc (Nat.le_trans h.bl.size hs2) _).grown hgrow (by simp; omega) (fun j hj => by have := hnb j hj; omega)
  · have := hgrow.size
    simp at this
    omega
set_option maxRecDepth 100000 in
set_option maxHeartbeats 8000000 in
theorem text_p (e nw : Int) (v : Value) (l : List Int) (w : World) (h : IsAt w v l) (hn : l.length ≤ 1000) (hlib : LibAt w) (hwf : (numsF (e :: nw :: l)).wf) :
    Calls Tryz.prog 59 #[.agg #[.int .i64 e, v, .int .i64 nw]] w fun x w' => x = .returned (.string (txtR ⟨e, l, nw⟩)) ∧ Below w.heap.size w w' := by
  have hput : putS 3 0 ⟨#[]⟩ (numsF (e :: nw :: l)) = txtR ⟨e, l, nw⟩ := nums_put _ (by simp; omega)
  obtain ⟨i0, hi, hz0, hz1, hz2⟩ := info_parts infoVal
  obtain ⟨ad, cap, rfl, _⟩ := h.shape
  have hb0 := ro_below w e (.slice ad l.length cap) nw 24
  have HB := Lib.hid hb0
  have HRC : Hid (∀ W', Below (w.heap.size + 1) (w.alloc (.cells #[.int .i64 e, .slice ad l.length cap, .int .i64 nw] 24)) W' → RC W' w.heap.size e (.slice ad l.length cap) nw) := Lib.hid (fun W' hW => (RC.new w e ad l.length cap nw 24).kept (hW.block _ (by omega)))
  have HSZ : Hid ((w.alloc (.cells #[.int .i64 e, .slice ad l.length cap, .int .i64 nw] 24)).heap.size = w.heap.size + 1) := Lib.hid (by simp)
  have HV := Lib.hid h
  have HP := Lib.hid (fun (la : Option Addr) (lc : Nat) W (hW : Below w.heap.size w W) (hr : RepS W la (numsF (e :: nw :: l))) => Put_p 3 0 ⟨#[]⟩ (numsF (e :: nw :: l)) la lc W (hlib.below hW).2.2.2 (by omega) hwf hr)
  rw [hput] at HP
  have hlen : (numsF (e :: nw :: l)).len = l.length + 2 := by rw [numsF_len]; simp
  rw [hlen] at HP
  generalize txtR ⟨e, l, nw⟩ = TX at *
  clear h hlib hwf hput hlen hb0
  go_enter Tryz.func59, Tryz.ntmps59
  go_wp2_with fail
  generalize (w.alloc (.cells #[.int .i64 e, .slice ad l.length cap, .int .i64 nw] 24)) = W at *
  have HS : Hid (∀ W', Below W.heap.size W W' → W'.cell? ⟨w.heap.size, 0, none⟩ = some (.int .i64 e) ∧ W'.cell? ⟨w.heap.size, 2, none⟩ = some (.int .i64 nw)) := Lib.hid (fun W' hW => by
    obtain ⟨⟨s0, s1, s2⟩, _⟩ := HRC.out W' (HSZ.out ▸ hW)
    exact ⟨s0, s2⟩)
  have HX0 := Lib.hid (Below.refl W.heap.size W).drew
  have hS0 := HS.out _ HX0.out
  refine wp_region_held (S := fun W' => W'.cell? ⟨w.heap.size, 0, none⟩ = some (.int .i64 e) ∧ W'.cell? ⟨w.heap.size, 2, none⟩ = some (.int .i64 nw)) (by kernel_rfl) ?_
  change wpAnyH _ _ _ _ _ _ _ _ (World.drew _)
  refine wpAnyH_take (i := 0) (v := Value.pointer (some ⟨w.heap.size, 0, none⟩)) rfl (by kernel_rfl) (by kernel_rfl) (by kernel_rfl) (fun _ _ _ h => h) (Or.inl ⟨by rfl, ?_⟩) hS0 ?_
  · intro w' ⟨s0, s1⟩; go_simp
  refine wpAnyH_take (i := 1) (v := Value.int .i64 e) rfl (by kernel_rfl) (by kernel_rfl) (by kernel_rfl) (fun _ _ _ h => h) (Or.inl ⟨by rfl, ?_⟩) hS0 ?_
  · intro w' ⟨s0, s1⟩; go_simp
  refine wpAnyH_take (i := 3) (v := Value.pointer (some ⟨w.heap.size, 2, none⟩)) rfl (by kernel_rfl) (by kernel_rfl) (by kernel_rfl) (fun _ _ _ h => h) (Or.inl ⟨by rfl, ?_⟩) hS0 ?_
  · intro w' ⟨s0, s1⟩; go_simp
  refine wpAnyH_take (i := 4) (v := Value.int .i64 nw) rfl (by kernel_rfl) (by kernel_rfl) (by kernel_rfl) (fun _ _ _ h => h) (Or.inl ⟨by rfl, ?_⟩) hS0 ?_
  · intro w' ⟨s0, s1⟩; go_simp
  simp only [List.getElem_toArray, List.getElem_cons_succ, List.getElem_cons_zero, Act.put, List.setIfInBounds_toArray, List.set_cons_zero, List.set_cons_succ]
  clear hS0
  refine wpAnyH_ready (rs := [2]) (by kernel_rfl) (by simp) ?_
  refine AllReadyH.cons rfl (fun K hK => ?_) AllReadyH.nil
  simp only [List.getElem_toArray, List.getElem_cons_succ, List.getElem_cons_zero]
  go_simp
  refine (cnum_p e _).mono ?_
  rintro _ y1 ⟨rfl, hy⟩
  have HX1 := Lib.hid (HX0.out.trans (hy.mono HX0.out.size))
  clear hy
  refine hK.out _ _ (HS.out _ HX1.out) (fun _ => ?_)
  clear hK
  refine wpAnyH_ready (rs := [5]) (by kernel_rfl) (by simp) ?_
  refine AllReadyH.cons rfl (fun K hK => ?_) AllReadyH.nil
  simp only [List.getElem_toArray, List.getElem_cons_succ, List.getElem_cons_zero]
  go_simp
  refine (cnum_p nw _).mono ?_
  rintro _ y2 ⟨rfl, hy⟩
  have HX2 := Lib.hid (HX1.out.trans (hy.mono HX1.out.size))
  clear hy
  refine hK.out _ _ (HS.out _ HX2.out) (fun _ => ?_)
  clear hK
  refine wpAnyH_ready (rs := [6]) (by kernel_rfl) (by simp) ?_
  refine AllReadyH.cons rfl (fun K hK => ?_) AllReadyH.nil
  simp only [List.getElem_toArray, List.getElem_cons_succ, List.getElem_cons_zero]
  go_simp
  have hx := HX2.out.alloc HX2.out.size (.cells #[.int .i64 1, .int .i64 e, .string ⟨#[]⟩, .slice none 0 0, .int .i64 1, .int .i64 nw, .string ⟨#[]⟩, .slice none 0 0] 121)
  have htx := TxR.start w y2 e nw (HB.out.trans (HX2.out.mono HB.out.size)) (HSZ.out ▸ HX2.out.size)
  refine hK.out _ _ (HS.out _ hx) (fun _ => ?_)
  clear hK
  have HX3 := Lib.hid hx
  have HTX := Lib.hid htx
  clear hx htx
  generalize y2.alloc _ = y3 at *
  generalize y2.heap.size = B3 at *
  refine wpAnyH_ready (rs := [7]) (by kernel_rfl) (by simp) ?_
  refine AllReadyH.cons rfl (fun K hK => ?_) AllReadyH.nil
  simp only [List.getElem_toArray, List.getElem_cons_succ, List.getElem_cons_zero]
  go_simp
  refine hK.out _ _ (HS.out _ HX3.out) (fun _ => ?_)
  clear hK
  refine wpAnyH_done (by kernel_rfl) ?_ _
  obtain ⟨⟨s0, s1, s2⟩, _⟩ := HRC.out y3 (HSZ.out ▸ HX3.out)
  go_wp2_with fail
  clear s0 s1 s2 HS HX0 HX1 HX2 HX3 HRC HSZ HB
  go_loopw [3, 5, 16] (fun vv uv iv wr => ∃ (k : Nat) (la : Option Addr) (lc : Nat), iv = .int .i64 k ∧ k ≤ l.length ∧ vv = .slice la (k + 2) lc ∧ Hid (TxR w (e :: nw :: l.take k) (k + 2) la lc wr)) (fun _ _ iv _ => l.length - (intOf iv).toNat)
  case atStart => exact ⟨0, _, 2, rfl, Nat.zero_le _, rfl, HTX⟩
  case round =>
    obtain ⟨k, la, lc, rfl, hk, rfl, HR⟩ := hrel
    by_cases hlt : k < l.length
    · have hltz : (k : Int) < (l.length : Int) := by omega
      obtain ⟨x, hx⟩ : ∃ x, l[k]? = some x := ⟨_, List.getElem?_eq_getElem hlt⟩
      obtain ⟨g, o, rfl, d0⟩ := (HV.out.below HR.out.bl).get hx
      have HXX := Lib.hid hx
      clear hx
      go_wp2_with fail
      refine (cnum_p x _).mono ?_
      rintro _ w2 ⟨rfl, hb2⟩
      have hbw : Below wr.heap.size wr w2 := hb2
      have HB2 := Lib.hid hbw
      have HOW := Lib.hid (owns_below HR.out.own (hbw.alloc hbw.size (.cells #[.int .i64 1, .int .i64 x, .string ⟨#[]⟩, .slice none 0 0] 121)))
      have HGE := Lib.hid (show w.heap.size + 1 ≤ (w2.alloc (.cells #[.int .i64 1, .int .i64 x, .string ⟨#[]⟩, .slice none 0 0] 121)).heap.size by have h1 := HR.out.ge; have h2 := hbw.size; simp; omega)
      clear hb2 hbw d0
      go_wp2_with (at_builtin; refine wpList_append_own_at _ rfl (.tmp 20) (.tmp 23) 119 rfl (w.heap.size + 1) 121 i0 _ 4 56 Tryz.underlying119 hi hz0 hz1 hz2 rfl (by decide) (.slice la (k + 2) lc) (k + 2) (xcells (e :: nw :: l.take k)) rfl HOW.out ⟨w2.heap.size, 0, none⟩ 1 1 [.int .i64 1, .int .i64 x, .string ⟨#[]⟩, .slice none 0 0] rfl rfl ?c1 ?c2 (by unfold maxLen; omega) (by omega) HGE.out ?_)
      case c1 => exact World.news_of_block (cs := #[.int .i64 1, .int .i64 x, .string ⟨#[]⟩, .slice none 0 0]) (heap_alloc_new w2 _)
      case c2 =>
        intro u hu
        simp at hu
        rcases hu with rfl | rfl | rfl | rfl <;> rfl
      intro v' w3 hown3 hgrow3 _ hloc3
      obtain ⟨la3, lc3, rfl, hE⟩ := HR.out.step HB2.out hown3 hgrow3
      have HE : Hid (TxR w (e :: nw :: l.take (k + 1)) (k + 1 + 2) la3 lc3 w3) := Lib.hid (by rw [List.take_add_one, HXX.out]; exact hE)
      clear hown3 hgrow3 hloc3 hE
      go_wp2_with fail
      go_roundw
      case rel => exact ⟨k + 1, la3, lc3, by go_num, by omega, by first | rfl | (congr 1; omega), HE⟩
      case measure => simp [intOf]; omega
    · have hltz : ¬ (k : Int) < (l.length : Int) := by omega
      obtain rfl : k = l.length := by omega
      have HR' := HR.out
      rw [List.take_length] at HR'
      have HQ := Lib.hid (HP.out la lc wr HR'.bl HR'.rep)
      have HBL := Lib.hid HR'.bl
      clear HR HR' HP
      go_wp2_with fail
      refine HQ.out.mono ?_
      rintro _ w4 ⟨rfl, hb4⟩
      have HB4 := Lib.hid (HBL.out.trans (hb4.mono HBL.out.size))
      clear hb4
      go_wp2_with fail
      go_ret
      exact ⟨rfl, HB4.out⟩
end Go.Proofs.YtaacdggjkfmehaaGreatDoor
