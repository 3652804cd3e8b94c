/-
  Contracts of the program, and what they rest on.
-/
import Derived.Test.YtaacdggjkfmehaaGreatDoorM03
import Derived.Deep.QuietTactic
import Derived.BigQuiet
import Derived.RegionTactic
import Derived.ChangeAlike
import Derived.Deep.RegionWith
import Derived.Deep.RegionHeld3
namespace Go.Proofs.YtaacdggjkfmehaaGreatDoor
open Go.RowKit Go.Maps Go.Proofs.MapD Go.Proofs.Chest
theorem has_nb {L : List En} {n : ByteArray} (h : ∃ e ∈ L, e.nm = n) : Maps.has (D (nb L)) (kl n) = true := by
  rw [D_has]
  obtain ⟨e, he, rfl⟩ := h
  exact List.any_eq_true.2 ⟨(e.nm, e.rb), List.mem_map.2 ⟨e, he, rfl⟩, by simp⟩
theorem has_not {L : List En} {n : ByteArray} (h : ∀ e ∈ L, e.nm ≠ n) : Maps.has (D (nb L)) (kl n) = false := by
  rw [D_has, List.any_eq_false]
  intro x hx
  obtain ⟨e, he, rfl⟩ := List.mem_map.1 hx
  simpa using h e he
set_option maxRecDepth 100000 in
set_option maxHeartbeats 4000000 in
theorem find_some {w : World} {c room : Nat} {m : Option Nat} {L : List En} (h : RepL w c room m L) {e : En} (he : e ∈ L) (hn : e.nm.size ≤ maxLen) :
    Calls Tryz.prog 77 #[.pointer (some ⟨c, 0, none⟩), .string e.nm] w fun x w' => x = .returned (.tuple #[.pointer (some ⟨e.rb, 0, none⟩), .int .i64 0]) ∧ w = w' := by
  obtain ⟨⟨c0, c1⟩, _, _⟩ := h.ch
  have hm := h.map
  cases m with
  | none =>
    have h0 : nb L = [] := hm
    unfold nb at h0
    rw [List.map_eq_nil_iff] at h0
    rw [h0] at he
    cases he
  | some b =>
    have hown : w.ownsMap Tryz.prog 9 ptrElem b (nb L).length (D (nb L)) := hm
    have hhas := Lib.hid (has_nb (L := L) (n := e.nm) ⟨e, he, rfl⟩)
    have hat := Lib.hid (D_at (names_nb h) (e := (e.nm, e.rb)) (List.mem_map.2 ⟨e, he, rfl⟩) (.lit (.bool false)))
    clear hm
    go_enter Tryz.func77, Tryz.ntmps77
    go_wp2_with (at_lookup; refine wpList_lookup_own_ok _ rfl _ _ 62 rfl 9 83 law Tryz.underlying62 ptrElem (zeroP _) (.lit (.bool false)) [] ptr_nil b (nb L).length (D (nb L)) rfl hown _ (kl e.nm) rfl (Go.WideMaps.keyOf_string_mk Tryz.underlying9 hn) ?_; intro v ps hv; rw [hat.out] at hv; obtain rfl := ptr_inv hv; rw [hhas.out])
    exact bodyPost_ret (v := .tuple #[.pointer (some ⟨e.rb, 0, none⟩), .int .i64 0]) (by simp [results, Tryz.results77, go_sem]) rfl ⟨rfl, rfl⟩
set_option maxRecDepth 100000 in
set_option maxHeartbeats 4000000 in
theorem find_none {w : World} {c room : Nat} {m : Option Nat} {L : List En} (h : RepL w c room m L) (n : ByteArray) (he : ∀ e ∈ L, e.nm ≠ n) (hn : n.size ≤ maxLen) :
    Calls Tryz.prog 77 #[.pointer (some ⟨c, 0, none⟩), .string n] w fun x w' => x = .returned (.tuple #[.pointer none, .int .i64 6]) ∧ w = w' := by
  obtain ⟨⟨c0, c1⟩, _, _⟩ := h.ch
  have hm := h.map
  have hk := Go.WideMaps.keyOf_string_mk Tryz.underlying9 hn
  cases m with
  | none =>
    have hlk := Maps.look_nil (P := Tryz.prog) (w := w) true law Tryz.underlying62 (zeroP w) hk
    simp only [if_pos] at hlk
    clear hm hk
    go_enter Tryz.func77, Tryz.ntmps77
    go_wp2
    exact bodyPost_ret (v := .tuple #[.pointer none, .int .i64 6]) (by simp [results, Tryz.results77, go_sem]) rfl ⟨rfl, rfl⟩
  | some b =>
    have hown : w.ownsMap Tryz.prog 9 ptrElem b (nb L).length (D (nb L)) := hm
    have hhas := Lib.hid (has_not he)
    clear hm
    go_enter Tryz.func77, Tryz.ntmps77
    go_wp2_with (at_lookup; refine wpList_lookup_own_ok _ rfl _ _ 62 rfl 9 83 law Tryz.underlying62 ptrElem (zeroP _) (.lit (.bool false)) [] ptr_nil b (nb L).length (D (nb L)) rfl hown _ (kl n) rfl hk ?_; intro v ps hv; rw [atKey_of_not_has hhas.out] at hv; obtain rfl := ptr_nil_inv hv; rw [hhas.out])
    exact bodyPost_ret (v := .tuple #[.pointer none, .int .i64 6]) (by simp [results, Tryz.results77, go_sem]) rfl ⟨rfl, rfl⟩
theorem rclone_p (n : ByteArray) (w : World) (hn : n.size ≤ 281474976710656) :
    Calls Tryz.prog 67 #[.string n] w fun e w' => e = .returned (.string n) ∧ Below w.heap.size w w' := by
  go_enter Tryz.func67, Tryz.ntmps67
  go_wp2_with (go_at_call 92; refine (Tryz.stringslite_Clone n _ hn).mono ?_; rintro _ w1 ⟨rfl, hb⟩)
  go_ret
  exact ⟨rfl, hb⟩
theorem owns_norm {w : World} {b k : Nat} {N : List NB} (h : w.ownsMap Tryz.prog 9 ptrElem b k (D N)) : w.ownsMap Tryz.prog 9 ptrElem b N.length (D N) := by
  obtain ⟨es, clock, hb, F, hs, hD⟩ := h
  refine ⟨es, clock, hb, F, ?_, hD⟩
  have h1 := D_size N
  rw [hD] at h1
  have e1 : Maps.size (DataW.map ((es.toList.map (Go.WideElems.rg Tryz.prog 9 ptrElem)).foldr DataW.insert [])) = es.size := by simp [Maps.size, length_sorted]
  rw [e1] at h1
  exact Nat.le_of_eq h1
set_option maxRecDepth 100000 in
set_option maxHeartbeats 4000000 in
theorem put_some {w : World} {c room b : Nat} {N : List NB} (hc : ChAt w c room (some b)) (hm : MapN w (some b) N) (ha : (names N).Nodup) (hcb : c ≠ b) (n : ByteArray) (hn : n.size ≤ 1000000) (hN : N.length ≤ 1000000) (rb : Nat) :
    Calls Tryz.prog 42 #[.pointer (some ⟨c, 0, none⟩), .string n, .pointer (some ⟨rb, 0, none⟩)] w fun e w' => e = .returned (.tuple #[]) ∧ ChAt w' c room (some b) ∧ MapN w' (some b) ((n, rb) :: N.filter fun e => decide (e.1 ≠ n)) ∧ Only [b] w w' := by
  have HM := Lib.hid (And.intro hc (And.intro hm ha))
  obtain ⟨⟨c0, c1⟩, _, _⟩ := hc
  have hcl : c < w.heap.size := World.block_lt_of_cell? w _ c0
  have hq : ∀ w : World, (binOp .eql 62 (.map (some b)) (.map none)).run Tryz.prog w = .ok (.bool false) w := fun w => run_eql_map_nil w 62 9 83 (some b) Tryz.underlying62
  clear hm ha
  go_enter Tryz.func42, Tryz.ntmps42
  go_wp2
  go_region_held3 (fun w' => w'.cell? ⟨c, 1, none⟩ = some (.map (some b))) (assumption) ((go_at_call 67; refine (rclone_p n _ (by omega)).mono ?_; rintro _ w1 ⟨rfl, hb1⟩; have hs1 : w1.cell? ⟨c, 1, none⟩ = some (.map (some b)) := (by rw [hb1.cell hcl]; go_simp); obtain ⟨w2, hrun, ho2, hg2⟩ := World.ownsMap.update (MapN.kept HM.out.2.1 (fun b' hb' => hb1.block _ (by obtain rfl := Option.some.inj hb'; exact World.ownsMap.lt HM.out.2.1))) law Tryz.underlying62 (show N.length < maxLen by unfold maxLen; omega) (Go.WideMaps.keyOf_string_mk (P := Tryz.prog) Tryz.underlying9 (s := n) (by unfold maxLen; omega)) (ptr_mk rb); have hs2 : w2.cell? ⟨c, 1, none⟩ = some (.map (some b)) := (by rw [cell_of_block (hg2.block c (Nat.lt_of_lt_of_le hcl hb1.size) (by simp [hcb]))]; exact hs1)))
  have hf : ChAt w2 c room (some b) ∧ MapN w2 (some b) ((n, rb) :: N.filter fun e => decide (e.1 ≠ n)) ∧ Only [b] w w2 := by
    have hb1' : Below w.heap.size w w1 := ((Below.refl w.heap.size w).drew).trans (hb1.mono (by simp))
    refine ⟨HM.out.1.kept ?_, ?_, ?_⟩
    · rw [hg2.block c (Nat.lt_of_lt_of_le hcl hb1'.size) (by simp [hcb]), hb1'.block c hcl]
    · have h3 := D_put HM.out.2.2 n rb
      have h4 := owns_norm (N := (n, rb) :: N.filter fun e => decide (e.1 ≠ n)) (h3 ▸ ho2)
      exact h4
    · exact (Only.of_below hb1' _).grown hg2 (by simp)
  go_end0
  exact ⟨rfl, hf⟩
set_option maxRecDepth 100000 in
set_option maxHeartbeats 4000000 in
theorem put_none {w : World} {c room : Nat} (hc : ChAt w c room none) (n : ByteArray) (hn : n.size ≤ 1000000) (rb : Nat) :
    Calls Tryz.prog 42 #[.pointer (some ⟨c, 0, none⟩), .string n, .pointer (some ⟨rb, 0, none⟩)] w fun e w' => e = .returned (.tuple #[]) ∧ ChAt w' c room (some w.heap.size) ∧ MapN w' (some w.heap.size) [(n, rb)] ∧ Only [c] w w' := by
  have HC := Lib.hid hc
  obtain ⟨⟨c0, c1⟩, z0, z1⟩ := hc
  have hcl : c < w.heap.size := World.block_lt_of_cell? w _ c0
  have hq : ∀ w : World, (binOp .eql 62 (.map none) (.map none)).run Tryz.prog w = .ok (.bool true) w := fun w => run_eql_map_nil w 62 9 83 none Tryz.underlying62
  have hmm := @run_makeMap Tryz.prog
  go_enter Tryz.func42, Tryz.ntmps42
  go_wp2
  have hc1 : ChAt ((w.setCell ⟨c, 1, none⟩ (.map (some w.heap.size))).alloc (.map #[] 0)) c room (some w.heap.size) := by
    refine ⟨⟨?_, ?_⟩, ?_, ?_⟩ <;> go_simp
  have hm1 : MapN ((w.setCell ⟨c, 1, none⟩ (.map (some w.heap.size))).alloc (.map #[] 0)) (some w.heap.size) [] :=
    (by have := World.ownsMap_made (w.setCell ⟨c, 1, none⟩ (.map (some w.heap.size))) Tryz.prog 9 ptrElem; have e : (w.setCell ⟨c, 1, none⟩ (.map (some w.heap.size))).heap.size = w.heap.size := by simp [World.setCell]
        rw [e] at this; exact this)
  have ho1 : Only [c] w ((w.setCell ⟨c, 1, none⟩ (.map (some w.heap.size))).alloc (.map #[] 0)) := ((Only.refl _ _).setCell (by simp) _).alloc _
  have hs1 : w.heap.size < ((w.setCell ⟨c, 1, none⟩ (.map (some w.heap.size))).alloc (.map #[] 0)).heap.size := by simp [World.setCell]
  generalize (w.setCell ⟨c, 1, none⟩ (.map (some w.heap.size))).alloc (.map #[] 0) = W1 at *
  obtain ⟨b, hb⟩ : ∃ b, w.heap.size = b := ⟨_, rfl⟩
  rw [hb] at hc1 hm1 hs1 ⊢
  have HM := Lib.hid (And.intro hc1 (And.intro hm1 (And.intro ho1 hb)))
  have hcb : c ≠ b := by omega
  obtain ⟨⟨d0, d1⟩, _, _⟩ := hc1
  have hcl1 : c < W1.heap.size := World.block_lt_of_cell? W1 _ d0
  clear hb hm1 ho1 c0 c1 z0 z1 hcl hq hmm
  go_region_held3 (fun w' => w'.cell? ⟨c, 1, none⟩ = some (.map (some b))) (assumption) ((go_at_call 67; refine (rclone_p n _ (by omega)).mono ?_; rintro _ w1 ⟨rfl, hb1⟩; have hs1 : w1.cell? ⟨c, 1, none⟩ = some (.map (some b)) := (by rw [hb1.cell hcl1]; go_simp); obtain ⟨w2, hrun, ho2, hg2⟩ := World.ownsMap.update (MapN.kept HM.out.2.1 (fun b' hb' => hb1.block _ (by obtain rfl := Option.some.inj hb'; exact World.ownsMap.lt HM.out.2.1))) law Tryz.underlying62 (show 0 < maxLen by unfold maxLen; omega) (Go.WideMaps.keyOf_string_mk (P := Tryz.prog) Tryz.underlying9 (s := n) (by unfold maxLen; omega)) (ptr_mk rb); have hs2 : w2.cell? ⟨c, 1, none⟩ = some (.map (some b)) := (by rw [cell_of_block (hg2.block c (Nat.lt_of_lt_of_le hcl1 hb1.size) (by simp [hcb]))]; exact hs1)))
  have hf : ChAt w2 c room (some b) ∧ MapN w2 (some b) [(n, rb)] ∧ Only [c] w w2 := by
    have hb1' : Below W1.heap.size W1 w1 := ((Below.refl W1.heap.size W1).drew).trans (hb1.mono (by simp))
    refine ⟨HM.out.1.kept ?_, ?_, ?_⟩
    · rw [hg2.block c (Nat.lt_of_lt_of_le hcl1 hb1'.size) (by simp [hcb]), hb1'.block c hcl1]
    · have h3 := D_put (L := []) (by simp) n rb
      have h4 := owns_norm (N := [(n, rb)]) (h3 ▸ ho2)
      exact h4
    · refine HM.out.2.2.1.trans ((Only.of_below hb1' [b]).grown hg2 (by simp)) ?_
      intro i hi
      right
      simp at hi
      rw [hi, HM.out.2.2.2]
      exact Nat.le_refl _
  go_end0
  exact ⟨rfl, by rw [HM.out.2.2.2]; exact hf⟩
theorem rput_p {w : World} {c room : Nat} {m : Option Nat} {N : List NB} (hc : ChAt w c room m) (hm : MapN w m N) (ha : (names N).Nodup) (hcb : ∀ b, m = some b → c ≠ b) (n : ByteArray) (hn : n.size ≤ 1000000) (hN : N.length ≤ 1000000) (rb : Nat) :
    Calls Tryz.prog 42 #[.pointer (some ⟨c, 0, none⟩), .string n, .pointer (some ⟨rb, 0, none⟩)] w fun e w' => ∃ b, e = .returned (.tuple #[]) ∧ ChAt w' c room (some b) ∧ MapN w' (some b) ((n, rb) :: N.filter fun e => decide (e.1 ≠ n)) ∧ Only (c :: m.toList) w w' ∧ (m = some b ∨ (m = none ∧ b = w.heap.size)) := by
  cases m with
  | some b =>
    refine (put_some hc hm ha (hcb b rfl) n hn hN rb).mono ?_
    rintro e w' ⟨rfl, h1, h2, h3⟩
    exact ⟨b, rfl, h1, h2, h3.mono (by simp), .inl rfl⟩
  | none =>
    have h0 : N = [] := hm
    subst h0
    refine (put_none hc n hn rb).mono ?_
    rintro e w' ⟨rfl, h1, h2, h3⟩
    exact ⟨_, rfl, h1, h2, h3.mono (by simp), .inr ⟨rfl, rfl⟩⟩
theorem text_shape {w : World} {v : Value} {t : ByteArray} (h : Text w v t) : ∃ ad cap, v = .slice ad t.size cap := by
  rcases h.2 with ⟨rfl, h0⟩ | ⟨g, cap, cur, rfl, _⟩
  · exact ⟨none, 0, by rw [h0]⟩
  · exact ⟨_, _, rfl⟩
theorem stays_int (r : Rl) (n : Int) (hp : r.p ≤ r.t.size) : (max n 0).tmod ((r.t.size : Int) - (r.p : Int) + 1) = ((stays r n : Nat) : Int) - (r.p : Int) := by
  unfold stays
  have e1 : max n 0 = (n.toNat : Int) := by omega
  have e2 : (r.t.size : Int) - (r.p : Int) + 1 = ((r.t.size - r.p + 1 : Nat) : Int) := by omega
  rw [e1, e2, ← Int.ofNat_tmod]
  omega
set_option maxRecDepth 100000 in
set_option maxHeartbeats 4000000 in
theorem stays_p {w : World} {e : En} (h : EnAt w e) (hp : e.r.p ≤ e.r.t.size) (hs : e.r.t.size ≤ 1048576) (n : Int) :
    Calls Tryz.prog 41 #[.pointer (some ⟨e.rb, 0, none⟩), .int .i64 n] w fun x w' => x = .returned (.int .i64 ((stays e.r n : Nat) : Int)) ∧ ∃ k, w' = w.drewN k := by
  obtain ⟨ad, cap, hv⟩ := text_shape h.2
  obtain ⟨⟨c0, c1, c2⟩, _, _, _⟩ := h.1
  rw [hv] at c0
  have hst := stays_int e.r n hp
  have hle := stays_le e.r n hp
  obtain ⟨S, hS⟩ : ∃ S, stays e.r n = S := ⟨_, rfl⟩
  rw [hS] at hst hle ⊢
  clear hv hS h
  generalize e.r.t.size = T at *
  generalize e.r.p = p at *
  generalize e.rb = rb at *
  have w1 : IntKind.i64.wrap ((T : Int) - (p : Int)) = (T : Int) - (p : Int) := IntWalk.i64_in _ (by omega)
  have w2 : IntKind.i64.wrap ((T : Int) - (p : Int) + 1) = (T : Int) - (p : Int) + 1 := IntWalk.i64_in _ (by omega)
  have w3 : IntKind.i64.wrap ((p : Int) + ((S : Int) - (p : Int))) = (S : Int) := by rw [show (p : Int) + ((S : Int) - (p : Int)) = (S : Int) by omega]; exact IntWalk.i64_in _ (by omega)
  have w4 : IntKind.i64.wrap ((S : Int) - (p : Int)) = (S : Int) - (p : Int) := IntWalk.i64_in _ (by omega)
  have w5 : ¬ ((T : Int) - (p : Int) + 1 = 0) := by omega
  go_enter Tryz.func41, Tryz.ntmps41
  go_wp2
  go_quiet (fail)
  go_wp2
  go_quiet (fail)
  go_wp2
  go_ret
  exact ⟨rfl, _, World.drewN_drewN _ _ _⟩
end Go.Proofs.YtaacdggjkfmehaaGreatDoor
namespace Go.Proofs.YtaacdggjkfmehaaGreatDoor
open Go.RowKit Go.Maps Go.Proofs.MapD Go.Proofs.Chest
theorem infoRU8 : (Tryz.prog.info? 5).map (fun i => (i.zero, i.size, i.bytes)) = some (some (.int .u8 0), 1, 1) := by kernel_rfl
theorem cells_append (t s : ByteArray) : Lib.strCells (t ++ s) = Lib.strCells t ++ Lib.strCells s := by
  unfold Lib.strCells
  rw [ByteArray.data_append, Array.toList_append, List.map_append]
set_option maxRecDepth 100000 in
theorem run_text_append {w : World} {v : Value} {t : ByteArray} (h : Text w v t) (s : ByteArray) (hs : t.size + s.size ≤ 100000000) (ty : TypeId) :
    ∃ v' w', (Builtin.append_ #[85, 9] ty #[v, .string s]).run Tryz.prog w = .ok v' w' ∧ Text w' v' (t ++ s) ∧ w.grownBy w' v.ownBlock ∧ (∀ g, v'.ownBlock = some g → v.ownBlock = some g ∨ w.heap.size ≤ g) := by
  obtain ⟨i0, hi, hz0, hz1, hz2⟩ := info_parts infoRU8
  have hmax : t.size + s.size ≤ maxLen := by unfold maxLen; omega
  obtain ⟨v', w', hr, ho, hg, hn⟩ := Lib.run_append_own_string (P := Tryz.prog) w 0 85 9 ty 5 i0 Tryz.underlying85 Tryz.underlying9 hi hz0 hz1 hz2 v t.size _ h s hmax (by omega) (Nat.zero_le _)
  refine ⟨v', w', hr, ?_, hg, ?_⟩
  · unfold Text
    rw [ByteArray.size_append, cells_append]
    exact ho
  · intro g hg'
    rcases h.2 with ⟨rfl, h0⟩ | ⟨g0, cap, cur, rfl, _, hh, hnc, hcm, hcs, htk⟩
    · right
      have hown : w.ownsRow w.heap.size 5 1 (.slice none 0 0) t.size (Lib.strCells t) := ⟨h.1, .inl ⟨rfl, h0⟩⟩
      obtain ⟨v2, w2, hr2, ho2, _⟩ := Lib.run_append_own_string (P := Tryz.prog) w w.heap.size 85 9 ty 5 i0 Tryz.underlying85 Tryz.underlying9 hi hz0 hz1 hz2 _ t.size _ hown s hmax (by omega) (Nat.le_refl _)
      rw [hr] at hr2
      injection hr2 with e1 e2
      subst e1
      rcases ho2.2 with ⟨rfl, _⟩ | ⟨g1, _, _, rfl, hb, _⟩
      · cases hg'
      · cases hg'
        exact hb
    · by_cases hroom : t.size + s.size ≤ cap
      · left
        have hr2 := Lib.run_append_room_string (P := Tryz.prog) (w := w) 85 9 ty 5 i0 Tryz.underlying85 Tryz.underlying9 hi hz1 g0 t.size cap cur hh s hroom (by omega)
        rw [hr] at hr2
        injection hr2 with e1 e2
        rw [e1] at hg'
        exact hg'
      · right
        have holds : ∀ j u, (Lib.strCells t)[j]? = some u → w.cell? ((⟨g0, 0, none⟩ : Addr).add j) = some u := h.cells (g := g0) rfl
        have hr2 := Lib.run_append_grow_string (P := Tryz.prog) (w := w) 85 9 ty 5 i0 (.int .u8 0) Tryz.underlying85 Tryz.underlying9 hi hz0 ⟨g0, 0, none⟩ t.size cap _ (by rw [hz1, Lib.strCells_length, Nat.mul_one]) holds s (by omega) (by omega) (by rw [hz2]; exact growslice_fits (by omega) (by omega))
        rw [hr] at hr2
        injection hr2 with e1 e2
        rw [e1] at hg'
        cases hg'
        exact Nat.le_refl _
theorem wpList_text_append {ops : Array Oper} {rest : List Oper} {o : Oper} {a : Act} {Q : Exit → Act → World → Prop} {w : World} (hgd : o.guard = none) (sl x : Operand)
    (ho : o.op = .call { callee := .builtin .append, args := #[sl, x], argTypes := #[85, 9] }) (v : Value) (t s : ByteArray) (hv : a.eval sl = v) (hx : a.eval x = .string s) (ht : Text w v t) (hs : t.size + s.size ≤ 100000000)
    (h : ∀ v' w', Text w' v' (t ++ s) → w.grownBy w' v.ownBlock → (∀ g, v'.ownBlock = some g → v.ownBlock = some g ∨ w.heap.size ≤ g) → wpList Tryz.prog ops Q rest (a.put o.dst v') w') : wpList Tryz.prog ops Q (o :: rest) a w := by
  refine wpList_plain hgd fun K hK => ?_
  obtain ⟨v', w', hr, h2, h3, h4⟩ := run_text_append ht s hs o.type
  unfold Oper.wp execOp
  simp only [ho, resolve, invoke, builtin, Sem.run_bind, Sem.run_pure, Result.andThen_ok, List.map_toArray, List.map_cons, List.map_nil, hv, hx, hr]
  exact hK _ _ (h v' w' h2 h3 h4)
theorem text_nil (w : World) : Text w (.slice none 0 0) ⟨#[]⟩ := ⟨rfl, .inl ⟨rfl, rfl⟩⟩
set_option maxRecDepth 100000 in
set_option maxHeartbeats 4000000 in
theorem copied_p {w : World} {v : Value} {t : ByteArray} (h : Text w v t) (hs : t.size ≤ 10000000) :
    Calls Tryz.prog 43 #[v] w fun x w' => ∃ v', x = .returned v' ∧ Text w' v' t ∧ Below w.heap.size w w' ∧ (∀ g, v'.ownBlock = some g → w.heap.size ≤ g) := by
  have hw0 : (w.alloc (.cells #[] 5)).ownsRow w.heap.size 5 1 (.slice (some ⟨w.heap.size, 0, none⟩) 0 0) 0 [] := ⟨rfl, .inr ⟨w.heap.size, 0, #[], rfl, Nat.le_refl _, heap_alloc_new w _, Nat.le_refl _, Nat.zero_le _, rfl, rfl⟩⟩
  have hbw : Below w.heap.size w (w.alloc (.cells #[] 5)) := (Below.refl _ _).alloc (Nat.le_refl _) _
  obtain ⟨i0, hi, hz0, hz1, hz2⟩ := info_parts infoRU8
  rcases h.2 with ⟨rfl, h0⟩ | ⟨g, cap, cur, rfl, _, hh, hnc, hcm, hcs, htk⟩
  · have ht : Lib.strCells t = [] := List.eq_nil_of_length_eq_zero (by rw [Lib.strCells_length]; exact h0)
    have hf : Text (w.alloc (.cells #[] 5)) (.slice (some ⟨w.heap.size, 0, none⟩) 0 0) t := by
      unfold Text
      rw [h0, ht]
      exact ⟨hw0.1, by rcases hw0.2 with h1 | ⟨g, cap, cur, h1, _, h2⟩; exact .inl h1; exact .inr ⟨g, cap, cur, h1, Nat.zero_le _, h2⟩⟩
    have HF := Lib.hid hf
    have HW := Lib.hid hw0
    have HI := Lib.hid hi
    have HB := Lib.hid hbw
    clear ht hf hw0 h hi hbw h0
    go_enter Tryz.func43, Tryz.ntmps43
    go_wp2
    go_ret
    exact ⟨_, rfl, HF.out, HB.out, fun g hg => by cases hg; exact Nat.le_refl _⟩
  · have hcells : ∀ j u, (Lib.strCells t)[j]? = some u → (w.alloc (.cells #[] 5)).cell? ((⟨g, 0, none⟩ : Addr).add j) = some u := fun j u hj => by
      have h1 := h.cells (g := g) rfl j u hj
      rw [World.cell?_alloc_lt _ _ _ (World.block_lt_of_cell? w _ h1)]
      exact h1
    have HC := Lib.hid hcells
    have HW := Lib.hid hw0
    have HI := Lib.hid hi
    have HB := Lib.hid hbw
    have hl : (Lib.strCells t).length = t.size * 1 := by rw [Lib.strCells_length, Nat.mul_one]
    have HL := Lib.hid hl
    clear hcells hw0 hi hbw hl h htk hh hcs
    go_enter Tryz.func43, Tryz.ntmps43
    go_wp2_with (at_builtin; refine wpList_append_own_at _ rfl _ _ 85 rfl w.heap.size 5 i0 _ 1 1 Tryz.underlying85 HI.out hz0 hz1 hz2 rfl (by decide) _ 0 [] rfl HW.out ⟨g, 0, none⟩ t.size cap (Lib.strCells t) rfl HL.out HC.out (Lib.strCells_oneCell t) (by unfold maxLen; omega) (by omega) (by simp) ?_; intro v' w1 hown hgrow hnil hloc)
    simp only [Nat.zero_add, List.nil_append] at hown
    have hf : Text w1 v' t := ⟨hown.1, by rcases hown.2 with h1 | ⟨g, cap, cur, h1, _, h2⟩; exact .inl h1; exact .inr ⟨g, cap, cur, h1, Nat.zero_le _, h2⟩⟩
    have hb : Below w.heap.size w w1 := HB.out.grown hgrow HB.out.size (fun k hk => by cases hk; exact Nat.le_refl _)
    have hg : ∀ g, v'.ownBlock = some g → w.heap.size ≤ g := fun g hg => by
      rcases hown.2 with ⟨rfl, _⟩ | ⟨g1, _, _, rfl, h1, _⟩
      · cases hg
      · cases hg; exact h1
    have HF := Lib.hid (And.intro hf (And.intro hb hg))
    clear hf hb hg hown hgrow hnil hloc
    go_wp2
    go_ret
    exact ⟨_, rfl, HF.out⟩
theorem cells_cut (t : ByteArray) (n : Nat) : (Lib.strCells t).take n = Lib.strCells (t.extract 0 n) := by
  unfold Lib.strCells
  rw [← List.map_take, ByteArray.data_extract, Array.toList_extract]
  simp
theorem text_cut {w : World} {t : ByteArray} {g cap : Nat} (h : Text w (.slice (some ⟨g, 0, none⟩) t.size cap) t) (n : Nat) (hn : n ≤ t.size) : Text w (.slice (some ⟨g, 0, none⟩) n cap) (t.extract 0 n) := by
  rcases h.2 with ⟨h1, _⟩ | ⟨g0, cap0, cur, h1, _, hh, hnc, hcm, hcs, htk⟩
  · cases h1
  · cases h1
    have hz : (t.extract 0 n).size = n := by rw [ByteArray.size_extract]; omega
    refine ⟨by rw [Lib.strCells_length, Nat.mul_one], .inr ⟨g, cap, cur, by rw [hz], Nat.zero_le _, hh, by omega, hcm, hcs, ?_⟩⟩
    rw [hz, ← cells_cut t n, ← htk, List.take_take]
    congr 1
    omega
theorem extract_all (t : ByteArray) : t.extract 0 t.size = t := by
  apply ByteArray.ext
  rw [ByteArray.data_extract]
  apply Array.ext'
  rw [Array.toList_extract]
  simp
  exact List.take_of_length_le (by simp)
set_option maxRecDepth 100000 in
set_option maxHeartbeats 4000000 in
theorem shorten_p {w : World} {v : Value} {t : ByteArray} (h : Text w v t) (hs : t.size ≤ 10000000) (n : Nat) (hn : n ≤ t.size) :
    Calls Tryz.prog 79 #[v, .int .i64 n] w fun x w' => ∃ v', x = .returned v' ∧ Text w' v' (t.extract 0 n) ∧ Below w.heap.size w w' ∧ (∀ g, v'.ownBlock = some g → v.ownBlock = some g ∨ w.heap.size ≤ g) := by
  have h' := h
  rcases h.2 with ⟨rfl, h0⟩ | ⟨g, cap, cur, rfl, _, hh, hnc, hcm, hcs, htk⟩
  · obtain rfl : n = 0 := by omega
    have hf : Text w (.slice none 0 0) (t.extract 0 0) := by
      have : t.extract 0 0 = t := by
        have := extract_all t
        rw [h0] at this
        exact this
      rw [this]
      exact h
    have HF := Lib.hid hf
    clear hf h h' h0 hn
    go_enter Tryz.func79, Tryz.ntmps79
    go_wp2
    go_ret
    exact ⟨_, rfl, HF.out, Below.refl _ _, fun g hg => .inl hg⟩
  · have HF := Lib.hid (text_cut h' n hn)
    have hz : (t.extract 0 n).size ≤ 10000000 := by rw [ByteArray.size_extract]; omega
    have HC := Lib.hid (copied_p HF.out hz)
    generalize t.size = T at *
    unfold maxLen at hcm
    clear h h' hh hcs htk hs hz
    by_cases hlt : n < cap / 4
    · have hlt' : (n : Int) < (cap : Int) / 4 := by omega
      go_enter Tryz.func79, Tryz.ntmps79
      go_wp2_with (go_at_call 43; refine HC.out.mono ?_; rintro _ w1 ⟨v', rfl, h1, h2, h3⟩)
      go_ret
      exact ⟨_, rfl, h1, h2, fun g hg => .inr (h3 g hg)⟩
    · have hlt' : ¬ (n : Int) < (cap : Int) / 4 := by omega
      go_enter Tryz.func79, Tryz.ntmps79
      go_wp2
      go_ret
      exact ⟨_, rfl, HF.out, Below.refl _ _, fun g hg => .inl hg⟩
end Go.Proofs.YtaacdggjkfmehaaGreatDoor
namespace Go.Proofs.YtaacdggjkfmehaaGreatDoor
open Go.RowKit Go.Maps Go.Proofs.MapD Go.Proofs.Chest
theorem uniq_of {α β : Type} {f : α → β} : ∀ {l : List α}, (l.map f).Nodup → ∀ {a b : α}, a ∈ l → b ∈ l → f a = f b → a = b
  | [], _, _, _, ha, _, _ => by cases ha
  | x :: r, h, a, b, ha, hb, e => by
    rw [List.map_cons, List.nodup_cons] at h
    rcases List.mem_cons.1 ha with rfl | ha' <;> rcases List.mem_cons.1 hb with rfl | hb'
    · rfl
    · exact absurd (List.mem_map.2 ⟨b, hb', e.symm⟩) h.1
    · exact absurd (List.mem_map.2 ⟨a, ha', e⟩) h.1
    · exact uniq_of h.2 ha' hb' e
theorem pw_all {α : Type} {R : α → α → Prop} (hs : ∀ a b, R a b → R b a) : ∀ {l : List α}, l.Pairwise R → ∀ {a b : α}, a ∈ l → b ∈ l → a ≠ b → R a b
  | [], _, _, _, ha, _, _ => by cases ha
  | x :: r, h, a, b, ha, hb, e => by
    rw [List.pairwise_cons] at h
    rcases List.mem_cons.1 ha with rfl | ha' <;> rcases List.mem_cons.1 hb with rfl | hb'
    · exact absurd rfl e
    · exact h.1 _ hb'
    · exact hs _ _ (h.1 _ ha')
    · exact pw_all hs h.2 ha' hb' e
theorem rb_mem (e : En) : e.rb ∈ e.foot := by simp [En.foot]
theorem foot_mem {e : En} {k : Nat} (h : k ∈ e.foot) : k = e.rb ∨ e.v.ownBlock = some k := by
  rcases List.mem_cons.1 h with rfl | h
  · exact .inl rfl
  · exact .inr (by simpa using h)
section
variable {w w' : World} {c room room' : Nat} {m : Option Nat} {L : List En} {e e' : En}
theorem RepL.uniq (h : RepL w c room m L) {a b : En} (ha : a ∈ L) (hb : b ∈ L) (hn : a.nm = b.nm) : a = b := by
  have := h.wf.apart
  unfold ab at this
  simp only [List.map_map] at this
  exact uniq_of (f := fun e : En => e.nm) this ha hb hn
theorem RepL.disj (h : RepL w c room m L) {a b : En} (ha : a ∈ L) (hb : b ∈ L) (hn : a ≠ b) : ∀ k ∈ a.foot, k ∉ b.foot :=
  pw_all (fun _ _ h k hk hk' => h k hk' hk) h.apart.ll ha hb hn
theorem RepL.elt (h : RepL w c room m L) (he : e ∈ L) {k : Nat} (hk : k ∈ e.foot) : k < w.heap.size := (h.ens e he).lt k hk
def repl (L : List En) (e' : En) : List En := L.map fun x => if x.nm = e'.nm then e' else x
theorem mem_repl {x : En} (hx : x ∈ repl L e') : x = e' ∨ (x ∈ L ∧ x.nm ≠ e'.nm) := by
  obtain ⟨a, ha, rfl⟩ := List.mem_map.1 hx
  by_cases h1 : a.nm = e'.nm
  · exact .inl (if_pos h1)
  · rw [if_neg h1]
    exact .inr ⟨ha, h1⟩
theorem ab_repl (L : List En) (e' : En) : ab (repl L e') = Chest.set (ab L) e'.nm e'.r := by
  unfold ab repl Chest.set
  rw [List.map_map, List.map_map]
  apply List.map_congr_left
  intro x _
  simp only [Function.comp]
  by_cases h1 : x.nm = e'.nm
  · rw [if_pos h1, if_pos h1]
  · rw [if_neg h1, if_neg h1]
theorem nb_repl (h : ∀ x ∈ L, x.nm = e'.nm → x.rb = e'.rb) : nb (repl L e') = nb L := by
  unfold nb repl
  rw [List.map_map]
  apply List.map_congr_left
  intro x hx
  simp only [Function.comp]
  by_cases h1 : x.nm = e'.nm
  · rw [if_pos h1, h x hx h1, h1]
  · rw [if_neg h1]
theorem RepL.repl (h : RepL w c room m L) (he : e ∈ L) (hn : e'.nm = e.nm) (hb : e'.rb = e.rb) (hv : ∀ g, e'.v.ownBlock = some g → e.v.ownBlock = some g ∨ w.heap.size ≤ g) (hc : ChAt w' c room' m) (he' : EnAt w' e')
    (hk : ∀ k, k < w.heap.size → k ≠ c → k ∉ e.foot → w'.heap[k]? = w.heap[k]?) (hw : Wf ⟨room', Chest.set (ab L) e'.nm e'.r⟩) :
    RepL w' c room' m (repl L e') ∧ ∀ k ∈ foots c m (YtaacdggjkfmehaaGreatDoor.repl L e'), k ∈ foots c m L ∨ w.heap.size ≤ k := by
  have hrb : e.rb < w.heap.size := h.elt he (rb_mem e)
  have hc0 : c < w.heap.size := h.ch.lt
  have hf : ∀ k ∈ e'.foot, k ∈ e.foot ∨ w.heap.size ≤ k := by
    intro k hk
    rcases foot_mem hk with rfl | hk
    · left; rw [hb]; exact rb_mem e
    · rcases hv k hk with h1 | h1
      · left; simp [En.foot, h1]
      · exact .inr h1
  have hx : ∀ x ∈ L, x.nm ≠ e'.nm → x ≠ e := fun x _ hxn hxe => hxn (by rw [hxe, hn])
  have hne : ∀ x ∈ L, x.nm ≠ e'.nm → ∀ k ∈ x.foot, k ∉ e'.foot := by
    intro x hxL hxn k hk hk'
    rcases hf k hk' with h1 | h1
    · exact h.disj hxL he (hx x hxL hxn) k hk h1
    · have := h.elt hxL hk; omega
  refine ⟨⟨hc, ?_, ?_, ⟨h.apart.cm, ?_, ?_, ?_, ?_⟩, ?_⟩, ?_⟩
  · unfold MapAt
    rw [nb_repl (fun x hxL hxn => by rw [h.uniq hxL he (hxn.trans hn), hb])]
    refine MapN.kept h.map (fun b hb' => ?_)
    subst hb'
    exact hk b h.map.lt (fun e1 => h.apart.cm b rfl e1.symm) (h.apart.me b rfl e he)
  · intro x hxr
    rcases mem_repl hxr with rfl | ⟨hxL, hxn⟩
    · exact he'
    · exact (h.ens x hxL).kept (fun k hkx => hk k (h.elt hxL hkx) (fun e1 => h.apart.ce x hxL (e1 ▸ hkx)) (h.disj hxL he (hx x hxL hxn) k hkx))
  · intro x hxr hcx
    rcases mem_repl hxr with rfl | ⟨hxL, _⟩
    · rcases hf c hcx with h1 | h1
      · exact h.apart.ce e he h1
      · omega
    · exact h.apart.ce x hxL hcx
  · intro b hb' x hxr hbx
    rcases mem_repl hxr with rfl | ⟨hxL, _⟩
    · rcases hf b hbx with h1 | h1
      · exact h.apart.me b hb' e he h1
      · subst hb'
        have := h.map.lt
        omega
    · exact h.apart.me b hb' x hxL hbx
  · intro x hxr hxe
    rcases mem_repl hxr with rfl | ⟨hxL, _⟩
    · rcases hv _ hxe with h1 | h1
      · rw [hb] at h1
        exact h.apart.ee e he h1
      · omega
    · exact h.apart.ee x hxL hxe
  · unfold YtaacdggjkfmehaaGreatDoor.repl
    rw [List.pairwise_map]
    refine List.Pairwise.imp_of_mem ?_ h.apart.ll
    intro a b ha hb' hab k hka hkb
    by_cases h1 : a.nm = e'.nm <;> by_cases h2 : b.nm = e'.nm
    · have ea := h.uniq ha he (h1.trans hn)
      have eb := h.uniq hb' he (h2.trans hn)
      rw [ea, eb] at hab
      exact hab e.rb (rb_mem e) (rb_mem e)
    · rw [if_pos h1] at hka
      rw [if_neg h2] at hkb
      exact hne b hb' h2 k hkb hka
    · rw [if_neg h1] at hka
      rw [if_pos h2] at hkb
      exact hne a ha h1 k hka hkb
    · rw [if_neg h1] at hka
      rw [if_neg h2] at hkb
      exact hab k hka hkb
  · rw [ab_repl]; exact hw
  · intro k hkf
    unfold foots at hkf ⊢
    rcases List.mem_cons.1 hkf with rfl | hkf
    · left; simp
    · rcases List.mem_append.1 hkf with hkf | hkf
      · left; exact List.mem_cons_of_mem _ (List.mem_append_left _ hkf)
      · obtain ⟨x, hxr, hkx⟩ := List.mem_flatMap.1 hkf
        rcases mem_repl hxr with rfl | ⟨hxL, _⟩
        · rcases hf k hkx with h1 | h1
          · left; exact List.mem_cons_of_mem _ (List.mem_append_right _ (List.mem_flatMap.2 ⟨e, he, h1⟩))
          · exact .inr h1
        · left; exact List.mem_cons_of_mem _ (List.mem_append_right _ (List.mem_flatMap.2 ⟨x, hxL, hkx⟩))
theorem get_ab (L : List En) (n : ByteArray) : (∃ e ∈ L, e.nm = n ∧ get (ab L) n = some e.r) ∨ ((∀ e ∈ L, e.nm ≠ n) ∧ get (ab L) n = none) := by
  cases hg : get (ab L) n with
  | some r =>
    left
    obtain ⟨e, he, h1⟩ := List.mem_map.1 (get_mem hg)
    obtain ⟨rfl, rfl⟩ : e.nm = n ∧ e.r = r := by injection h1 with a b; exact ⟨a, b⟩
    exact ⟨e, he, rfl, rfl⟩
  | none =>
    right
    exact ⟨fun e he hn => get_none.1 hg (e.nm, e.r) (List.mem_map.2 ⟨e, he, rfl⟩) hn, rfl⟩
end
def Turns (w : World) (c : Nat) (F : List Nat) (st : St) (w' : World) : Prop := ∃ F', Rep w' c F' st ∧ (∀ k ∈ F', k ∈ F ∨ w.heap.size ≤ k) ∧ Only F w w'
theorem Turns.same {w : World} {c : Nat} {F : List Nat} {st : St} (h : Rep w c F st) : Turns w c F st w := ⟨F, h, fun _ hk => .inl hk, Only.refl _ _⟩
end Go.Proofs.YtaacdggjkfmehaaGreatDoor
namespace Go.Proofs.YtaacdggjkfmehaaGreatDoor
open Go.RowKit Go.Maps Go.Proofs.MapD Go.Proofs.Chest
set_option maxRecDepth 100000 in
theorem write_form {w : World} (c : Nat) (n s : ByteArray) (hn : n.size ≤ 1000000) (hk : okName n = false) :
    Calls Tryz.prog 99 #[.pointer (some ⟨c, 0, none⟩), .string n, .string s] w fun x w' => x = .returned (.int .i64 1) ∧ w = w' := by
  have HK := Lib.hid hk
  clear hk
  go_enter Tryz.func99, Tryz.ntmps99
  go_wp2_with (go_at_call 98; refine (may_p n (by omega) _).mono ?_; rintro _ w1 ⟨rfl, rfl⟩; rw [HK.out])
  go_ret
  exact ⟨rfl, rfl⟩
set_option maxRecDepth 100000 in
theorem write_full {w : World} {c room : Nat} {m : Option Nat} (hc : ChAt w c room m) (n s : ByteArray) (hn : n.size ≤ 1000000) (hk : okName n = true) (hr : room < s.size) :
    Calls Tryz.prog 99 #[.pointer (some ⟨c, 0, none⟩), .string n, .string s] w fun x w' => x = .returned (.int .i64 5) ∧ w = w' := by
  have HK := Lib.hid hk
  clear hk
  obtain ⟨⟨c0, c1⟩, _, _⟩ := hc
  have hr' : (room : Int) < (s.size : Int) := by omega
  go_enter Tryz.func99, Tryz.ntmps99
  go_wp2_with (go_at_call 98; refine (may_p n (by omega) _).mono ?_; rintro _ w1 ⟨rfl, rfl⟩; rw [HK.out])
  go_ret
  exact ⟨rfl, rfl⟩
set_option maxRecDepth 100000 in
set_option maxHeartbeats 4000000 in
theorem write_old {w : World} {c room : Nat} {m : Option Nat} {L : List En} (h : RepL w c room m L) {e : En} (he : e ∈ L) (s : ByteArray) (hk : okName e.nm = true) (hr : s.size ≤ room) :
    Calls Tryz.prog 99 #[.pointer (some ⟨c, 0, none⟩), .string e.nm, .string s] w fun x w' => x = .returned (.int .i64 0) ∧ Turns w c (foots c m L) ⟨room - s.size, Chest.set (ab L) e.nm ⟨e.r.t ++ s, e.r.p, e.r.s⟩⟩ w' := by
  have hroom := h.wf.room
  have hts : e.r.t.size ≤ total (ab L) := total_le (e := (e.nm, e.r)) (List.mem_map.2 ⟨e, he, rfl⟩ : (e.nm, e.r) ∈ ab L)
  have hnn : e.nm.size ≤ 10 := by
    unfold okName at hk
    simp only [Bool.and_eq_true, decide_eq_true_eq] at hk
    exact hk.1.2
  have hwf : Wf ⟨room - s.size, Chest.set (ab L) e.nm ⟨e.r.t ++ s, e.r.p, e.r.s⟩⟩ := by
    have hg : get (ab L) e.nm = some e.r := get_of_mem h.wf.apart (List.mem_map.2 ⟨e, he, rfl⟩)
    have := wf_write h.wf e.nm s
    unfold write at this
    rw [if_neg (by rw [hk]; decide), if_neg (by simpa using hr), hg] at this
    exact this
  have HW := Lib.hid hwf
  have HH := Lib.hid h
  have HK := Lib.hid hk
  simp only at hroom
  have hsz : e.r.t.size + s.size ≤ 1048576 := by omega
  have hrm : room ≤ 1048576 := by omega
  clear hroom hts
  have hrb : e.rb < w.heap.size := h.elt he (rb_mem e)
  have hcw : c < w.heap.size := h.ch.lt
  have hcb : c ≠ e.rb := fun e1 => h.apart.ce e he (by rw [e1]; exact rb_mem e)
  have hcv : ∀ g, e.v.ownBlock = some g → c ≠ g := fun g hg e1 => h.apart.ce e he (by rw [e1]; simp [En.foot, hg])
  have hrv : ∀ g, e.v.ownBlock = some g → e.rb ≠ g := fun g hg e1 => h.apart.ee e he (by rw [hg, e1])
  have hT := (h.ens e he).2
  obtain ⟨⟨r0, r1, r2⟩, z0, z1, z2⟩ := (h.ens e he).1
  obtain ⟨ad, cap, hv⟩ := text_shape hT
  rw [hv] at hT r0 hcv hrv
  have HV := Lib.hid hv
  have HT := Lib.hid hT
  clear hT hv
  obtain ⟨⟨c0, c1⟩, y0, y1⟩ := h.ch
  have hm := h.map
  cases m with
  | none =>
    have h0 : nb L = [] := hm
    unfold nb at h0
    rw [List.map_eq_nil_iff] at h0
    rw [h0] at he
    cases he
  | some b =>
    have hown : w.ownsMap Tryz.prog 9 ptrElem b (nb L).length (D (nb L)) := hm
    have hhas := Lib.hid (has_nb (L := L) (n := e.nm) ⟨e, he, rfl⟩)
    have hat := Lib.hid (D_at (names_nb h) (e := (e.nm, e.rb)) (List.mem_map.2 ⟨e, he, rfl⟩) (.lit (.bool false)))
    have hns : ¬ (room : Int) < (s.size : Int) := by omega
    clear hm hwf h hk
    go_enter Tryz.func99, Tryz.ntmps99
    go_wp2_with (first
      | (go_at_call 98; refine (may_p e.nm (by omega) _).mono ?_; rintro _ w1 ⟨rfl, rfl⟩; rw [HK.out])
      | (at_lookup; refine wpList_lookup_own_ok _ rfl _ _ 62 rfl 9 83 law Tryz.underlying62 ptrElem (zeroP _) (.lit (.bool false)) [] ptr_nil b (nb L).length (D (nb L)) rfl hown _ (kl e.nm) rfl (Go.WideMaps.keyOf_string_mk Tryz.underlying9 (by unfold maxLen; omega)) ?_; intro v ps hv; rw [hat.out] at hv; obtain rfl := ptr_inv hv; rw [hhas.out])
      | (at_builtin; refine wpList_text_append rfl _ _ rfl (.slice ad e.r.t.size cap) e.r.t s rfl rfl HT.out (by omega) ?_; intro v' w1 ht1 hg1 hl1; obtain ⟨ad', cap', rfl⟩ := text_shape ht1
         have kb : w1.heap[e.rb]? = w.heap[e.rb]? := hg1.block _ hrb (fun e1 => hrv _ e1.symm rfl)
         have kc : w1.heap[c]? = w.heap[c]? := hg1.block _ hcw (fun e1 => hcv _ e1.symm rfl)
         have q0 : w1.cell? ⟨e.rb, 0, none⟩ = some (.slice ad e.r.t.size cap) := (by rw [cell_of_block kb]; exact r0)
         have x0 : w1.frozen? ⟨e.rb, 0, none⟩ = false := (by rw [frozen_of_block kb]; exact z0)
         have d0 : w1.cell? ⟨c, 0, none⟩ = some (.int .i64 room) := (by rw [cell_of_block kc]; exact c0)
         have f0 : w1.frozen? ⟨c, 0, none⟩ = false := (by rw [frozen_of_block kc]; exact y0)))
    go_ret
    refine ⟨rfl, ?_⟩
    rw [ByteArray.size_append] at ht1 hl1
    have e1 : ((room - s.size : Nat) : Int) = (room : Int) - (s.size : Int) := by omega
    have hf : ∀ k, k ∈ e.foot → k ∈ foots c (some b) L := fun k hk => by
      unfold foots
      exact List.mem_cons_of_mem _ (List.mem_append_right _ (List.mem_flatMap.2 ⟨e, he, hk⟩))
    have hown : ∀ g, (Value.slice ad e.r.t.size cap).ownBlock = some g → g ∈ e.foot := fun g hg => by
      simp [En.foot, HV.out, hg]
    have kb : w1.heap[e.rb]? = w.heap[e.rb]? := hg1.block _ hrb (fun e1 => hrv _ e1.symm rfl)
    have kc : w1.heap[c]? = w.heap[c]? := hg1.block _ hcw (fun e1 => hcv _ e1.symm rfl)
    have q1 : w1.cell? ⟨e.rb, 1, none⟩ = some (.int .i64 (e.r.p : Int)) := by rw [cell_of_block kb]; exact r1
    have q2 : w1.cell? ⟨e.rb, 2, none⟩ = some (.bool e.r.s) := by rw [cell_of_block kb]; exact r2
    have x1 : w1.frozen? ⟨e.rb, 1, none⟩ = false := by rw [frozen_of_block kb]; exact z1
    have x2 : w1.frozen? ⟨e.rb, 2, none⟩ = false := by rw [frozen_of_block kb]; exact z2
    have d1 : w1.cell? ⟨c, 1, none⟩ = some (.map (some b)) := by rw [cell_of_block kc]; exact c1
    have f1 : w1.frozen? ⟨c, 1, none⟩ = false := by rw [frozen_of_block kc]; exact y1
    have hg' : ∀ g, (Value.slice ad' (e.r.t.size + s.size) cap').ownBlock = some g → g ≠ e.rb ∧ g ≠ c := fun g hg => by
      rcases hl1 g hg with h1 | h1
      · exact ⟨fun e2 => hrv g h1 e2.symm, fun e2 => hcv g h1 e2.symm⟩
      · exact ⟨by omega, by omega⟩
    have hR := RepL.repl HH.out he (e' := ⟨e.nm, e.rb, .slice ad' (e.r.t.size + s.size) cap', ⟨e.r.t ++ s, e.r.p, e.r.s⟩⟩) (room' := room - s.size) (w' := (w1.setCell ⟨e.rb, 0, none⟩ (.slice ad' (e.r.t.size + s.size) cap')).setCell ⟨c, 0, none⟩ (.int .i64 ((room : Int) - (s.size : Int)))) rfl rfl
      (fun g hg => by rw [HV.out]; exact hl1 g hg) ?_ ⟨⟨⟨?_, ?_, ?_⟩, ?_, ?_, ?_⟩, ?_⟩ ?_ HW.out
    · obtain ⟨h1, h2⟩ := hR
      refine ⟨_, ⟨some b, _, h1, (ab_repl L ⟨e.nm, e.rb, .slice ad' (e.r.t.size + s.size) cap', ⟨e.r.t ++ s, e.r.p, e.r.s⟩⟩).symm, rfl⟩, h2, ?_⟩
      refine (((Only.refl _ w).grown hg1 (fun k hk => .inl (hf k (hown k hk)))).setCell (.inl (hf _ (rb_mem e))) _).setCell (.inl ?_) _
      simp [foots]
    · rw [ChAt, e1]
      refine ⟨⟨?_, ?_⟩, ?_, ?_⟩ <;> go_simp
    · go_simp
    · go_simp
    · go_simp
    · go_simp
    · go_simp
    · go_simp
    · exact ht1.kept (fun g hg => by rw [Below.heap_setCell _ _ _ _ (hg' g hg).2, Below.heap_setCell _ _ _ _ (hg' g hg).1])
    · intro k hk hkc hke
      rw [Below.heap_setCell _ _ _ _ hkc, Below.heap_setCell _ _ _ _ (fun e2 => hke (by rw [e2]; exact rb_mem e))]
      exact hg1.block k hk (fun e2 => hke (hown k e2.symm))
end Go.Proofs.YtaacdggjkfmehaaGreatDoor
