/-
  roll's Names.
-/
import Derived.Test.YtaekieoingflaaaGreatDoorRoll14
import Derived.Test.YtaekieoingflaaaGreatDoorIter
namespace Go.Proofs.YtaekieoingflaaaGreatDoor
open Go.RowKit Go.Maps Go.Sort Go.Shelf Go.Proofs.MapD Go.Proofs.Chest

/-- The names of a chest's rolls, as lists of bytes, in order. -/
def sorted (ss : List (List UInt8)) : List (List UInt8) := ss.mergeSort (fun x y => decide (x ≤ y))

theorem names_nil (w : World) : Calls Tryz.prog 33 #[.pointer none] w fun e w' => e = .returned (.slice none 0 0) ∧ w = w' := by
  go_enter Tryz.func33, Tryz.ntmps33
  go_wp2
  go_ret
  exact ⟨rfl, rfl⟩

set_option maxRecDepth 100000 in
set_option maxHeartbeats 4000000 in
theorem names_some {w : World} {c room b : Nat} {L : List En} (h : RepL w c room (some b) L) (hL : L.length ≤ 1000000) :
    Calls Tryz.prog 33 #[.pointer (some ⟨c, 0, none⟩)] w fun e w' => ∃ (v : Value) (ss : List (List UInt8)), e = .returned v ∧ ss.Perm ((ab L).map fun e => e.1.data.toList) ∧
      w'.ownsRow w.heap.size 9 1 v ss.length ((sorted ss).map encStr) ∧ Below w.heap.size w w' := by
  have hown : w.ownsMap Tryz.prog 9 ptrElem b (nb L).length (D (nb L)) := h.map
  have hsz : Maps.size (D (nb L)) = L.length := by rw [D_size]; unfold nb; rw [List.length_map]
  have hmax : Maps.size (D (nb L)) ≤ maxLen := by rw [hsz]; unfold maxLen; omega
  have hbytes : Maps.size (D (nb L)) * 16 ≤ 140737488355328 := by rw [hsz]; omega
  have hperm : (strKeys (D (nb L))).Perm ((ab L).map fun e => e.1.data.toList) := by
    have := D_strKeys (nb L)
    unfold nb ab at *
    rw [List.map_map] at this ⊢
    exact this
  obtain ⟨⟨c0, c1⟩, _, _⟩ := h.ch
  have HP := Lib.hid hperm
  clear h hsz hperm
  refine (callsIn_wide (n := 6)).1 ?_
  have hfK : Fence.wide.fn 65 := trivial
  have hfS : Fence.wide.fn 64 := trivial
  refine callsIn_of_wp Tryz.func33 rfl trivial ?_ rfl
  simp only [Tryz.ntmps33, List.size_toArray, List.length_cons, List.length_nil, Nat.reduceAdd, Nat.reduceSub, Array.replicate_succ, Array.replicate_zero, List.push_toArray, List.append_toArray, List.nil_append, List.cons_append]
  gi_wp2_with (first
    | (gi_at_call 65; refine (Tryz.maps_Keys_65 _ _).mono ?_; rintro e w' ⟨rfl, rfl⟩)
    | (gi_at_call 64; refine (Tryz.slices_Sorted_keys_64_65 b (nb L).length (D (nb L)) ptrElem w hown hmax hbytes).mono ?_; rintro e w' ⟨v, ss, rfl, hS, hrow, hnil, hb⟩))
  go_ret
  exact ⟨v, ss, rfl, hS.trans HP.out, ownsRow_base_a hrow (by simp), ((Below.refl _ w).alloc (Nat.le_refl _) _).trans (hb.mono (by simp))⟩

set_option maxRecDepth 100000 in
set_option maxHeartbeats 4000000 in
theorem names_none {w : World} {c room : Nat} (hc : ChAt w c room none) :
    Calls Tryz.prog 33 #[.pointer (some ⟨c, 0, none⟩)] w fun e w' => e = .returned (.slice none 0 0) ∧ Below w.heap.size w w' := by
  obtain ⟨⟨c0, c1⟩, _, _⟩ := hc
  refine (callsIn_wide (n := 6)).1 ?_
  have hfK : Fence.wide.fn 65 := trivial
  have hfS : Fence.wide.fn 64 := trivial
  refine callsIn_of_wp Tryz.func33 rfl trivial ?_ rfl
  simp only [Tryz.ntmps33, List.size_toArray, List.length_cons, List.length_nil, Nat.reduceAdd, Nat.reduceSub, Array.replicate_succ, Array.replicate_zero, List.push_toArray, List.append_toArray, List.nil_append, List.cons_append]
  gi_wp2_with (first
    | (gi_at_call 65; refine (Tryz.maps_Keys_65 _ _).mono ?_; rintro e w' ⟨rfl, rfl⟩)
    | (gi_at_call 64; refine (Tryz.slices_Sorted_keys_nil_64_65 w).mono ?_; rintro e w' ⟨v, ss, rfl, hS, hrow, hnil, hb⟩))
  go_ret
  exact ⟨by rw [hnil.2 hS]; rfl, ((Below.refl _ w).alloc (Nat.le_refl _) _).trans (hb.mono (by simp))⟩

/-- Names, at a chest. -/
theorem rnames_p {w : World} {c : Nat} {F : List Nat} {st : St} (h : Rep w c F st) (hL : st.l.length ≤ 1000000) :
    Calls Tryz.prog 33 #[.pointer (some ⟨c, 0, none⟩)] w fun e w' => ∃ (ad : Option Addr) (cap : Nat) (ss : List (List UInt8)), e = .returned (.slice ad ss.length cap) ∧ ss.Perm (st.l.map fun e => e.1.data.toList) ∧
      w'.ownsRow w.heap.size 9 1 (.slice ad ss.length cap) ss.length ((sorted ss).map encStr) ∧ Below w.heap.size w w' := by
  obtain ⟨m, L, hR, hl, rfl⟩ := h
  obtain ⟨room, l⟩ := st
  simp only at hR hl hL
  subst hl
  cases m with
  | none =>
    have h0 : nb L = [] := hR.map
    have hL0 : L = [] := by unfold nb at h0; exact List.map_eq_nil_iff.1 h0
    subst hL0
    refine (names_none hR.ch).mono ?_
    rintro e w' ⟨rfl, hb⟩
    have e1 : sorted [] = [] := by unfold sorted; simp
    exact ⟨none, 0, [], rfl, .refl _, by rw [e1]; exact World.ownsRow_nil _ _ _ _, hb⟩
  | some b =>
    refine (names_some hR (by unfold ab at hL; rw [List.length_map] at hL; exact hL)).mono ?_
    rintro e w' ⟨v, ss, rfl, h1, h2, h3⟩
    rcases h2.2 with ⟨rfl, h4⟩ | ⟨g, cap, cur, rfl, _⟩
    · exact ⟨none, 0, ss, by rw [h4], h1, by rw [h4]; exact h4 ▸ h2, h3⟩
    · exact ⟨_, _, ss, rfl, h1, h2, h3⟩

end Go.Proofs.YtaekieoingflaaaGreatDoor
