/-
  The contract of roster's Drop.
-/
import Derived.Test.YtmamepmfbfinlaaGreatDoorRosD
namespace Go.Proofs.YtmamepmfbfinlaaGreatDoor
open Go.RowKit

theorem rc_set2 {w : World} {b : Nat} {e n : Int} {v : Value} (h : RC w b e v n) (m : Int) : RC (w.setCell ⟨b, 2, none⟩ (.int .i64 m)) b e v m := by
  obtain ⟨⟨h0, h1, h2⟩, f0, f1, f2⟩ := h
  refine ⟨⟨?_, ?_, ?_⟩, ?_, ?_, ?_⟩ <;> go_simp

theorem rc_put {w : World} {b : Nat} {e0 n0 : Int} {v0 : Value} (h : RC w b e0 v0 n0) (e n : Int) (ad : Option Addr) (m c : Nat) : RC (((w.setCell ⟨b, 0, none⟩ (.int .i64 e)).setCell ⟨b, 1, none⟩ (.slice ad m c)).setCell ⟨b, 2, none⟩ (.int .i64 n)) b e (.slice ad m c) n := by
  obtain ⟨⟨h0, h1, h2⟩, f0, f1, f2⟩ := h
  refine ⟨⟨?_, ?_, ?_⟩, ?_, ?_, ?_⟩ <;> go_simp

set_option maxRecDepth 100000 in
set_option maxHeartbeats 8000000 in
theorem drop_p (e nw n : Int) (v : Value) (l : List Int) (w : World) (h : IsAt w v l) (hn : l.length ≤ 1000) :
    Calls Tryz.prog 43 #[.agg #[.int .i64 e, v, .int .i64 nw], .int .i64 n] w (RoOut (dropR ⟨e, l, nw⟩ n) w) := by
  obtain ⟨ad, cap, rfl, hcap⟩ := h.shape
  have HT := Lib.hid (twoB_new w e nw ad cap l h)
  obtain ⟨R, hR⟩ : ∃ R, dropR ⟨e, l, nw⟩ n = R := ⟨_, rfl⟩
  rw [hR]
  unfold dropR at hR
  dsimp only at hR
  have HI := Lib.hid (index_p _ l n _ HT.out.v (by omega))
  have HM := romay_p e nw _ l _ HT.out.v (by omega)
  have hix := ixI_cases l n
  cases hm : mayR ⟨e, l, nw⟩ with
  | false =>
    rw [hm] at HM hR
    have hRz : R = (Ro.zero, false) := by
      rw [← hR]
      cases ixN l n <;> rfl
    subst hRz
    have HM := Lib.hid HM
    clear h hm hix hR
    generalize ixI l n = kk at *
    go_enter Tryz.func43, Tryz.ntmps43
    go_wp2_with fail
    generalize ((w.alloc (.cells #[.int .i64 e, .slice ad l.length cap, .int .i64 nw] 24)).alloc (.cells #[.int .i64 0, .slice none 0 0, .int .i64 0] 24)) = W at *
    obtain ⟨⟨c0, c1, c2⟩, _⟩ := HT.out.a
    go_wp2_with fail
    refine HI.out.mono ?_
    rintro _ _ ⟨rfl, rfl⟩
    go_wp2_with fail
    refine HM.out.mono ?_
    rintro _ w2 ⟨rfl, hb2⟩
    have HZ := Lib.hid (HT.out.below hb2)
    clear c0 c1 c2 HM hb2 HT HI
    obtain ⟨⟨c0, c1, c2⟩, _⟩ := HZ.out.a
    obtain ⟨⟨d0, d1, d2⟩, f0, f1, f2⟩ := HZ.out.z
    go_wp2_with fail
    have hF := box_facts HZ.out 0 0 none 0 0
    dsimp only at hF
    obtain ⟨t0, t1, t2, hB3, _⟩ := hF
    exact bodyPost_ret (v := .tuple #[.agg #[.int .i64 0, .slice none 0 0, .int .i64 0], .bool false]) (by simp [results, Tryz.results43, go_sem, t0, t1, t2]) rfl ⟨none, 0, rfl, IOwn.nil _ _, hB3⟩
  | true =>
  have hlen := mayR_len hm
  rw [hm] at HM hR
  have HM := Lib.hid HM
  rcases hix with ⟨hi1, hi2⟩ | ⟨k, hk, hi1, hi2⟩
  · rw [hi2] at hR
    dsimp only at hR
    subst hR
    rw [hi1] at HI
    clear h hm hi1 hi2 hlen
    go_enter Tryz.func43, Tryz.ntmps43
    go_wp2_with fail
    generalize ((w.alloc (.cells #[.int .i64 e, .slice ad l.length cap, .int .i64 nw] 24)).alloc (.cells #[.int .i64 0, .slice none 0 0, .int .i64 0] 24)) = W at *
    obtain ⟨⟨c0, c1, c2⟩, _⟩ := HT.out.a
    go_wp2_with fail
    refine HI.out.mono ?_
    rintro _ _ ⟨rfl, rfl⟩
    go_wp2_with fail
    refine HM.out.mono ?_
    rintro _ w2 ⟨rfl, hb2⟩
    have HZ := Lib.hid (HT.out.below hb2)
    clear c0 c1 c2 HM hb2 HT HI
    obtain ⟨⟨c0, c1, c2⟩, _⟩ := HZ.out.a
    obtain ⟨⟨d0, d1, d2⟩, f0, f1, f2⟩ := HZ.out.z
    go_wp2_with fail
    have hF := box_facts HZ.out 0 0 none 0 0
    dsimp only at hF
    obtain ⟨t0, t1, t2, hB3, _⟩ := hF
    exact bodyPost_ret (v := .tuple #[.agg #[.int .i64 0, .slice none 0 0, .int .i64 0], .bool false]) (by simp [results, Tryz.results43, go_sem, t0, t1, t2]) rfl ⟨none, 0, rfl, IOwn.nil _ _, hB3⟩
  rw [hi2] at hR
  dsimp only at hR
  simp only [if_true] at hR
  rw [hi1] at HI
  have HR := Lib.hid hR
  obtain ⟨x0, hx0⟩ : ∃ x, l[0]? = some x := ⟨_, List.getElem?_eq_getElem (by omega)⟩
  obtain ⟨g, o, rfl, _⟩ := h.get hx0
  have hw1 : IntKind.i64.wrap (e + 1) = e + 1 := IntWalk.i64_in _ (by omega)
  have hw2 : IntKind.i64.wrap ((k : Int) + 1) = (k : Int) + 1 := IntWalk.i64_in _ (by omega)
  have hk0 : decide ((k : Int) < 0) = false := decide_eq_false (by omega)
  have hk1 : k ≤ cap := by omega
  have hk2 : k + 1 ≤ l.length := by omega
  have hk3 : (k : Int) + 1 ≤ (l.length : Int) := by omega
  have hk4 : (0 : Int) ≤ (k : Int) + 1 := by omega
  have hk5 : ((k : Int) + 1).toNat = k + 1 := by omega
  have hk6 : (k : Int) ≤ (cap : Int) := by omega
  obtain ⟨o2, hO2⟩ : ∃ o2, (cap = k + 1 ∧ o2 = o) ∨ (¬ cap = k + 1 ∧ o2 = o + (k + 1)) := by
    by_cases hc : cap = k + 1
    · exact ⟨o, .inl ⟨hc, rfl⟩⟩
    · exact ⟨o + (k + 1), .inr ⟨hc, rfl⟩⟩
  have HC2 := Lib.hid hO2
  have HIA : Hid (∀ Y, TwoB w Y e (some ⟨g, o, none⟩) l.length cap nw l → (g < Y.heap.size ∧ IAt Y g o (l.take k)) ∧ (g < Y.heap.size ∧ IAt Y g o2 (l.drop (k + 1)))) := Lib.hid (fun Y hY => by
    rcases hY.v with ⟨e0, _⟩ | ⟨g', o', c', e0, hlc, _, h3, h4⟩
    · cases e0
    · simp only [Value.slice.injEq, Option.some.injEq, Addr.mk.injEq, and_true, true_and] at e0
      obtain ⟨⟨rfl, rfl⟩, rfl⟩ := e0
      refine ⟨⟨h3, fun j x hx => h4 j x ?_⟩, ⟨h3, fun j x hx => ?_⟩⟩
      · rw [List.getElem?_take] at hx
        split at hx
        · exact hx
        · cases hx
      · rw [List.getElem?_drop] at hx
        have hj : k + 1 + j < l.length := (List.getElem?_eq_some_iff.1 hx).1
        rcases hO2 with ⟨hc, _⟩ | ⟨_, ho⟩
        · omega
        · subst ho
          rw [Nat.add_assoc]
          exact h4 (k + 1 + j) x hx)
  have HIL : Hid (g < w.heap.size) := Lib.hid (by
    rcases h with ⟨e0, _⟩ | ⟨g', o', c', e0, _, _, h3, _⟩
    · cases e0
    · simp only [Value.slice.injEq, Option.some.injEq, Addr.mk.injEq, and_true] at e0
      obtain ⟨⟨rfl, rfl⟩, _⟩ := e0
      exact h3)
  clear h hm hR hx0 hi1 hi2 hO2
  go_enter Tryz.func43, Tryz.ntmps43
  go_wp2_with fail
  generalize ((w.alloc (.cells #[.int .i64 e, .slice (some ⟨g, o, none⟩) l.length cap, .int .i64 nw] 24)).alloc (.cells #[.int .i64 0, .slice none 0 0, .int .i64 0] 24)) = W at *
  obtain ⟨⟨c0, c1, c2⟩, _⟩ := HT.out.a
  go_wp2_with fail
  refine HI.out.mono ?_
  rintro _ _ ⟨rfl, rfl⟩
  go_wp2_with fail
  refine HM.out.mono ?_
  rintro _ w2 ⟨rfl, hb2⟩
  have HZ := Lib.hid (HT.out.below hb2)
  clear c0 c1 c2 HM hb2 HT HI
  obtain ⟨⟨c0, c1, c2⟩, _⟩ := HZ.out.a
  replace HIA : Hid (∀ Y, Below w2.heap.size w2 Y → (g < Y.heap.size ∧ IAt Y g o (l.take k)) ∧ (g < Y.heap.size ∧ IAt Y g o2 (l.drop (k + 1)))) := Lib.hid (fun Y hY => HIA.out Y (HZ.out.below hY))
  go_wp2_with fail
  have HS : Hid (∀ Y, Below w2.heap.size w2 Y → Y.cell? ⟨w.heap.size, 0, none⟩ = some (.int .i64 e) ∧ Y.cell? ⟨w.heap.size, 1, none⟩ = some (.slice (some ⟨g, o, none⟩) l.length cap) ∧ Y.cell? ⟨w.heap.size, 2, none⟩ = some (.int .i64 nw)) := Lib.hid (fun Y hY => (HZ.out.below hY).a.1)
  have HX0 : Hid (Below w2.heap.size w2 w2.drew) := Lib.hid (Below.refl _ _).drew
  have hS0 := HS.out _ HX0.out
  clear c0 c1 c2
  refine wp_region_held_drew (S := fun Y => Y.cell? ⟨w.heap.size, 0, none⟩ = some (.int .i64 e) ∧ Y.cell? ⟨w.heap.size, 1, none⟩ = some (.slice (some ⟨g, o, none⟩) l.length cap) ∧ Y.cell? ⟨w.heap.size, 2, none⟩ = some (.int .i64 nw)) (by kernel_rfl) hS0 (fun _ => ?_)
  refine wpAnyH_take (i := 0) (v := Value.pointer (some ⟨w.heap.size, 0, none⟩)) rfl (by kernel_rfl) (by kernel_rfl) (by kernel_rfl) (fun _ _ _ h => h) (Or.inl ⟨by rfl, ?_⟩) hS0 ?_
  · intro w' ⟨s0, s1, s2⟩; go_simp
  refine wpAnyH_take (i := 1) (v := Value.int .i64 e) rfl (by kernel_rfl) (by kernel_rfl) (by kernel_rfl) (fun _ _ _ h => h) (Or.inl ⟨by rfl, ?_⟩) hS0 ?_
  · intro w' ⟨s0, s1, s2⟩; go_simp
  refine wpAnyH_take (i := 2) (v := Value.int .i64 (e + 1)) rfl (by kernel_rfl) (by kernel_rfl) (by kernel_rfl) (fun _ _ _ h => h) (Or.inl ⟨by rfl, ?_⟩) hS0 ?_
  · intro w' ⟨s0, s1, s2⟩; go_simp
  refine wpAnyH_take (i := 3) (v := Value.pointer (some ⟨w.heap.size, 1, none⟩)) rfl (by kernel_rfl) (by kernel_rfl) (by kernel_rfl) (fun _ _ _ h => h) (Or.inl ⟨by rfl, ?_⟩) hS0 ?_
  · intro w' ⟨s0, s1, s2⟩; go_simp
  refine wpAnyH_take (i := 4) (v := Value.slice (some ⟨g, o, none⟩) l.length cap) rfl (by kernel_rfl) (by kernel_rfl) (by kernel_rfl) (fun _ _ _ h => h) (Or.inl ⟨by rfl, ?_⟩) hS0 ?_
  · intro w' ⟨s0, s1, s2⟩; go_simp
  refine wpAnyH_take (i := 5) (v := Value.int .i64 k) rfl (by kernel_rfl) (by kernel_rfl) (by kernel_rfl) (fun _ _ _ h => h) (Or.inl ⟨by rfl, ?_⟩) hS0 ?_
  · intro w' ⟨s0, s1, s2⟩; go_simp
  refine wpAnyH_take (i := 6) (v := Value.slice (some ⟨g, o, none⟩) k cap) rfl (by kernel_rfl) (by kernel_rfl) (by kernel_rfl) (fun _ _ _ h => h) (Or.inl ⟨by rfl, ?_⟩) hS0 ?_
  · intro w' ⟨s0, s1, s2⟩; go_simp
  refine wpAnyH_take (i := 7) (v := Value.pointer (some ⟨w.heap.size, 1, none⟩)) rfl (by kernel_rfl) (by kernel_rfl) (by kernel_rfl) (fun _ _ _ h => h) (Or.inl ⟨by rfl, ?_⟩) hS0 ?_
  · intro w' ⟨s0, s1, s2⟩; go_simp
  refine wpAnyH_take (i := 8) (v := Value.slice (some ⟨g, o, none⟩) l.length cap) rfl (by kernel_rfl) (by kernel_rfl) (by kernel_rfl) (fun _ _ _ h => h) (Or.inl ⟨by rfl, ?_⟩) hS0 ?_
  · intro w' ⟨s0, s1, s2⟩; go_simp
  refine wpAnyH_take (i := 9) (v := Value.int .i64 k) rfl (by kernel_rfl) (by kernel_rfl) (by kernel_rfl) (fun _ _ _ h => h) (Or.inl ⟨by rfl, ?_⟩) hS0 ?_
  · intro w' ⟨s0, s1, s2⟩; go_simp
  refine wpAnyH_take (i := 10) (v := Value.int .i64 ((k : Int) + 1)) rfl (by kernel_rfl) (by kernel_rfl) (by kernel_rfl) (fun _ _ _ h => h) (Or.inl ⟨by rfl, ?_⟩) hS0 ?_
  · intro w' ⟨s0, s1, s2⟩; go_simp
  refine wpAnyH_take (i := 11) (v := Value.slice (some ⟨g, o2, none⟩) (l.length - (k + 1)) (cap - (k + 1))) rfl (by kernel_rfl) (by kernel_rfl) (by kernel_rfl) (fun _ _ _ h => h) (Or.inl ⟨by rfl, ?_⟩) hS0 ?_
  · intro w' ⟨s0, s1, s2⟩; rcases HC2.out with ⟨hcp, rfl⟩ | ⟨hcp, rfl⟩ <;> go_simp
  refine wpAnyH_take (i := 14) (v := Value.pointer (some ⟨w.heap.size, 2, none⟩)) rfl (by kernel_rfl) (by kernel_rfl) (by kernel_rfl) (fun _ _ _ h => h) (Or.inl ⟨by rfl, ?_⟩) hS0 ?_
  · intro w' ⟨s0, s1, s2⟩; go_simp
  refine wpAnyH_take (i := 15) (v := Value.int .i64 nw) rfl (by kernel_rfl) (by kernel_rfl) (by kernel_rfl) (fun _ _ _ h => h) (Or.inl ⟨by rfl, ?_⟩) hS0 ?_
  · intro w' ⟨s0, s1, s2⟩; go_simp
  simp only [List.getElem_toArray, List.getElem_cons_succ, List.getElem_cons_zero, Act.put, List.setIfInBounds_toArray, List.set_cons_zero, List.set_cons_succ]
  clear hS0
  generalize w2.drew = Y0 at *
  refine wpAnyH_ready (rs := [12, 17]) (by kernel_rfl) (by simp) ?_
  refine (AllReadyH.cons rfl (fun K hK => ?ara) (AllReadyH.cons rfl (fun K hK => ?arb) AllReadyH.nil))
  case' ara =>
    simp only [List.getElem_toArray, List.getElem_cons_succ, List.getElem_cons_zero]
    go_simp
    have hy : Below Y0.heap.size Y0 (Y0.alloc (.cells #[.slice (some ⟨g, o, none⟩) k cap, .slice (some ⟨g, o2, none⟩) (l.length - (k + 1)) (cap - (k + 1))] 22)) := (Below.refl _ _).alloc (Nat.le_refl _) _
    have HC0 : Hid ((Y0.alloc (.cells #[.slice (some ⟨g, o, none⟩) k cap, .slice (some ⟨g, o2, none⟩) (l.length - (k + 1)) (cap - (k + 1))] 22)).cell? ⟨Y0.heap.size, 0, none⟩ = some (.slice (some ⟨g, o, none⟩) k cap)) := Lib.hid (by go_simp)
    have HC1 : Hid ((Y0.alloc (.cells #[.slice (some ⟨g, o, none⟩) k cap, .slice (some ⟨g, o2, none⟩) (l.length - (k + 1)) (cap - (k + 1))] 22)).cell? ⟨Y0.heap.size, 1, none⟩ = some (.slice (some ⟨g, o2, none⟩) (l.length - (k + 1)) (cap - (k + 1)))) := Lib.hid (by go_simp)
    have HX1 := Lib.hid (HX0.out.trans (hy.mono HX0.out.size))
    have HLB : Hid (Y0.heap.size < (Y0.alloc (.cells #[.slice (some ⟨g, o, none⟩) k cap, .slice (some ⟨g, o2, none⟩) (l.length - (k + 1)) (cap - (k + 1))] 22)).heap.size) := Lib.hid (by simp)
    refine hK.out _ _ (HS.out _ HX1.out) (fun _ => ?_)
    clear hK hy
    generalize (Y0.alloc (.cells #[.slice (some ⟨g, o, none⟩) k cap, .slice (some ⟨g, o2, none⟩) (l.length - (k + 1)) (cap - (k + 1))] 22)) = Y1 at *
    generalize Y0.heap.size = B at *
    refine wpAnyH_ready (rs := [13, 17]) (by kernel_rfl) (by simp) ?_
    refine (AllReadyH.cons rfl (fun K hK => ?araa) (AllReadyH.cons rfl (fun K hK => ?arab) AllReadyH.nil))
    case' araa =>
      simp only [List.getElem_toArray, List.getElem_cons_succ, List.getElem_cons_zero]
      go_simp
      have hla := HIA.out _ HX1.out
      have hlen1 : (l.take k).length = k := by simp; omega
      have hlen2 : (l.drop (k + 1)).length = l.length - (k + 1) := by simp
      have hcc := concat_p B g o cap g o2 (cap - (k + 1)) (l.take k) (l.drop (k + 1)) Y1 HLB.out (by rw [hlen1]; exact HC0.out) (by rw [hlen2]; exact HC1.out) hla.1 hla.2 (by omega) (by omega)
      refine hcc.mono ?_
      rintro _ Y2 ⟨a3, c3, rfl, ho3, hy⟩
      have HX2 := Lib.hid (HX1.out.trans (hy.mono HX1.out.size))
      have HO2 : Hid (∀ j, (Value.slice a3 (l.take k ++ l.drop (k + 1)).length c3).ownBlock = some j → w.heap.size + 2 ≤ j) := Lib.hid (fun j hj => by
        have h1 := (ho3.lt hj).1
        have h2 := HX1.out.size
        have h3 := HZ.out.z.lt
        omega)
      have HO3 := Lib.hid (ho3.mono (show w.heap.size ≤ Y1.heap.size from Nat.le_trans HZ.out.b.size HX1.out.size))
      clear hy ho3 hla HC0 HC1 HLB hlen1 hlen2 hcc
      have hLL : (l.take k ++ l.drop (k + 1)).length ≤ 1001 := by simp; omega
      generalize l.take k ++ l.drop (k + 1) = L at *
      refine hK.out _ _ (HS.out _ HX2.out) (fun _ => ?_)
      clear hK
      have hS0 := HS.out _ HX2.out
      refine wpAnyH_take (i := 16) (v := Value.agg #[.int .i64 (e + 1), .slice a3 L.length c3, .int .i64 nw]) rfl (by kernel_rfl) (by kernel_rfl) (by kernel_rfl) (fun _ _ _ h => h) (Or.inl ⟨by rfl, ?_⟩) hS0 ?_
      · intro w' ⟨s0, s1, s2⟩; go_simp
      simp only [List.getElem_toArray, List.getElem_cons_succ, List.getElem_cons_zero, Act.put, List.setIfInBounds_toArray, List.set_cons_zero, List.set_cons_succ]
      clear hS0
      refine wpAnyH_ready (rs := [17]) (by kernel_rfl) (by simp) ?_
      refine (AllReadyH.cons rfl (fun K hK => ?_) AllReadyH.nil)
      simp only [List.getElem_toArray, List.getElem_cons_succ, List.getElem_cons_zero]
      go_simp
      have hy : Below Y2.heap.size Y2 (Y2.alloc (.cells #[.int .i64 0, .slice none 0 0, .int .i64 0] 24)) := (Below.refl _ _).alloc (Nat.le_refl _) _
      have HX3 := Lib.hid (HX2.out.trans (hy.mono HX2.out.size))
      have HBX : Hid (RC (Y2.alloc (.cells #[.int .i64 0, .slice none 0 0, .int .i64 0] 24)) Y2.heap.size 0 (.slice none 0 0) 0) := Lib.hid (RC.new _ 0 none 0 0 0 _)
      have hgx : w.heap.size + 2 ≤ Y2.heap.size := by
        have h2 := HX2.out.size
        have h3 := HZ.out.z.lt
        omega
      replace HO2 : Hid (∀ j, (Value.slice a3 L.length c3).ownBlock = some j → w.heap.size + 2 ≤ j ∧ j ≠ Y2.heap.size) := Lib.hid (fun j hj => ⟨HO2.out j hj, by have := (HO3.out.lt hj).2; omega⟩)
      replace HO3 := Lib.hid (HO3.out.below hy)
      refine hK.out _ _ (HS.out _ HX3.out) (fun _ => ?_)
      clear hK hy
      generalize (Y2.alloc (.cells #[.int .i64 0, .slice none 0 0, .int .i64 0] 24)) = Y3 at *
      generalize Y2.heap.size = X at *
    case' arab =>
      simp only [List.getElem_toArray, List.getElem_cons_succ, List.getElem_cons_zero]
      go_simp
      have hy : Below Y1.heap.size Y1 (Y1.alloc (.cells #[.int .i64 0, .slice none 0 0, .int .i64 0] 24)) := (Below.refl _ _).alloc (Nat.le_refl _) _
      have HX2 := Lib.hid (HX1.out.trans (hy.mono HX1.out.size))
      have HBX : Hid (RC (Y1.alloc (.cells #[.int .i64 0, .slice none 0 0, .int .i64 0] 24)) Y1.heap.size 0 (.slice none 0 0) 0) := Lib.hid (RC.new _ 0 none 0 0 0 _)
      have hgx : w.heap.size + 2 ≤ Y1.heap.size := by
        have h2 := HX1.out.size
        have h3 := HZ.out.z.lt
        omega
      replace HC0 := Lib.hid ((hy.cell HLB.out).trans HC0.out)
      replace HC1 := Lib.hid ((hy.cell HLB.out).trans HC1.out)
      replace HLB := Lib.hid (Nat.lt_of_lt_of_le HLB.out hy.size)
      refine hK.out _ _ (HS.out _ HX2.out) (fun _ => ?_)
      clear hK hy
      generalize (Y1.alloc (.cells #[.int .i64 0, .slice none 0 0, .int .i64 0] 24)) = Y2 at *
      generalize Y1.heap.size = X at *
      refine wpAnyH_ready (rs := [13]) (by kernel_rfl) (by simp) ?_
      refine (AllReadyH.cons rfl (fun K hK => ?_) AllReadyH.nil)
      simp only [List.getElem_toArray, List.getElem_cons_succ, List.getElem_cons_zero]
      go_simp
      have hla := HIA.out _ HX2.out
      have hlen1 : (l.take k).length = k := by simp; omega
      have hlen2 : (l.drop (k + 1)).length = l.length - (k + 1) := by simp
      have hcc := concat_p B g o cap g o2 (cap - (k + 1)) (l.take k) (l.drop (k + 1)) Y2 HLB.out (by rw [hlen1]; exact HC0.out) (by rw [hlen2]; exact HC1.out) hla.1 hla.2 (by omega) (by omega)
      refine hcc.mono ?_
      rintro _ Y3 ⟨a3, c3, rfl, ho3, hy⟩
      have HX3 := Lib.hid (HX2.out.trans (hy.mono HX2.out.size))
      have HO2 : Hid (∀ j, (Value.slice a3 (l.take k ++ l.drop (k + 1)).length c3).ownBlock = some j → w.heap.size + 2 ≤ j ∧ j ≠ X) := Lib.hid (fun j hj => by
        have h1 := (ho3.lt hj).1
        have h2 := HX2.out.size
        have h3 := HZ.out.z.lt
        have h4 := HBX.out.lt
        omega)
      have HO3 := Lib.hid (ho3.mono (show w.heap.size ≤ Y2.heap.size from Nat.le_trans HZ.out.b.size HX2.out.size))
      replace HBX := Lib.hid (HBX.out.below hy)
      clear hy ho3 hla HC0 HC1 HLB hlen1 hlen2 hcc
      have hLL : (l.take k ++ l.drop (k + 1)).length ≤ 1001 := by simp; omega
      generalize l.take k ++ l.drop (k + 1) = L at *
      refine hK.out _ _ (HS.out _ HX3.out) (fun _ => ?_)
      clear hK
      have hS0 := HS.out _ HX3.out
      refine wpAnyH_take (i := 16) (v := Value.agg #[.int .i64 (e + 1), .slice a3 L.length c3, .int .i64 nw]) rfl (by kernel_rfl) (by kernel_rfl) (by kernel_rfl) (fun _ _ _ h => h) (Or.inl ⟨by rfl, ?_⟩) hS0 ?_
      · intro w' ⟨s0, s1, s2⟩; go_simp
      simp only [List.getElem_toArray, List.getElem_cons_succ, List.getElem_cons_zero, Act.put, List.setIfInBounds_toArray, List.set_cons_zero, List.set_cons_succ]
      clear hS0
  case' arb =>
    simp only [List.getElem_toArray, List.getElem_cons_succ, List.getElem_cons_zero]
    go_simp
    have hy : Below Y0.heap.size Y0 (Y0.alloc (.cells #[.int .i64 0, .slice none 0 0, .int .i64 0] 24)) := (Below.refl _ _).alloc (Nat.le_refl _) _
    have HX1 := Lib.hid (HX0.out.trans (hy.mono HX0.out.size))
    have HBX : Hid (RC (Y0.alloc (.cells #[.int .i64 0, .slice none 0 0, .int .i64 0] 24)) Y0.heap.size 0 (.slice none 0 0) 0) := Lib.hid (RC.new _ 0 none 0 0 0 _)
    have hgx : w.heap.size + 2 ≤ Y0.heap.size := by
      have h2 := HX0.out.size
      have h3 := HZ.out.z.lt
      omega
    refine hK.out _ _ (HS.out _ HX1.out) (fun _ => ?_)
    clear hK hy
    generalize (Y0.alloc (.cells #[.int .i64 0, .slice none 0 0, .int .i64 0] 24)) = Y1 at *
    generalize Y0.heap.size = X at *
    refine wpAnyH_ready (rs := [12]) (by kernel_rfl) (by simp) ?_
    refine (AllReadyH.cons rfl (fun K hK => ?_) AllReadyH.nil)
    simp only [List.getElem_toArray, List.getElem_cons_succ, List.getElem_cons_zero]
    go_simp
    have hy : Below Y1.heap.size Y1 (Y1.alloc (.cells #[.slice (some ⟨g, o, none⟩) k cap, .slice (some ⟨g, o2, none⟩) (l.length - (k + 1)) (cap - (k + 1))] 22)) := (Below.refl _ _).alloc (Nat.le_refl _) _
    have HC0 : Hid ((Y1.alloc (.cells #[.slice (some ⟨g, o, none⟩) k cap, .slice (some ⟨g, o2, none⟩) (l.length - (k + 1)) (cap - (k + 1))] 22)).cell? ⟨Y1.heap.size, 0, none⟩ = some (.slice (some ⟨g, o, none⟩) k cap)) := Lib.hid (by go_simp)
    have HC1 : Hid ((Y1.alloc (.cells #[.slice (some ⟨g, o, none⟩) k cap, .slice (some ⟨g, o2, none⟩) (l.length - (k + 1)) (cap - (k + 1))] 22)).cell? ⟨Y1.heap.size, 1, none⟩ = some (.slice (some ⟨g, o2, none⟩) (l.length - (k + 1)) (cap - (k + 1)))) := Lib.hid (by go_simp)
    have HX2 := Lib.hid (HX1.out.trans (hy.mono HX1.out.size))
    have HLB : Hid (Y1.heap.size < (Y1.alloc (.cells #[.slice (some ⟨g, o, none⟩) k cap, .slice (some ⟨g, o2, none⟩) (l.length - (k + 1)) (cap - (k + 1))] 22)).heap.size) := Lib.hid (by simp)
    replace HBX := Lib.hid (HBX.out.below hy)
    refine hK.out _ _ (HS.out _ HX2.out) (fun _ => ?_)
    clear hK hy
    generalize (Y1.alloc (.cells #[.slice (some ⟨g, o, none⟩) k cap, .slice (some ⟨g, o2, none⟩) (l.length - (k + 1)) (cap - (k + 1))] 22)) = Y2 at *
    generalize Y1.heap.size = B at *
    refine wpAnyH_ready (rs := [13]) (by kernel_rfl) (by simp) ?_
    refine (AllReadyH.cons rfl (fun K hK => ?_) AllReadyH.nil)
    simp only [List.getElem_toArray, List.getElem_cons_succ, List.getElem_cons_zero]
    go_simp
    have hla := HIA.out _ HX2.out
    have hlen1 : (l.take k).length = k := by simp; omega
    have hlen2 : (l.drop (k + 1)).length = l.length - (k + 1) := by simp
    have hcc := concat_p B g o cap g o2 (cap - (k + 1)) (l.take k) (l.drop (k + 1)) Y2 HLB.out (by rw [hlen1]; exact HC0.out) (by rw [hlen2]; exact HC1.out) hla.1 hla.2 (by omega) (by omega)
    refine hcc.mono ?_
    rintro _ Y3 ⟨a3, c3, rfl, ho3, hy⟩
    have HX3 := Lib.hid (HX2.out.trans (hy.mono HX2.out.size))
    have HO2 : Hid (∀ j, (Value.slice a3 (l.take k ++ l.drop (k + 1)).length c3).ownBlock = some j → w.heap.size + 2 ≤ j ∧ j ≠ X) := Lib.hid (fun j hj => by
      have h1 := (ho3.lt hj).1
      have h2 := HX2.out.size
      have h3 := HZ.out.z.lt
      have h4 := HBX.out.lt
      omega)
    have HO3 := Lib.hid (ho3.mono (show w.heap.size ≤ Y2.heap.size from Nat.le_trans HZ.out.b.size HX2.out.size))
    replace HBX := Lib.hid (HBX.out.below hy)
    clear hy ho3 hla HC0 HC1 HLB hlen1 hlen2 hcc
    have hLL : (l.take k ++ l.drop (k + 1)).length ≤ 1001 := by simp; omega
    generalize l.take k ++ l.drop (k + 1) = L at *
    refine hK.out _ _ (HS.out _ HX3.out) (fun _ => ?_)
    clear hK
    have hS0 := HS.out _ HX3.out
    refine wpAnyH_take (i := 16) (v := Value.agg #[.int .i64 (e + 1), .slice a3 L.length c3, .int .i64 nw]) rfl (by kernel_rfl) (by kernel_rfl) (by kernel_rfl) (fun _ _ _ h => h) (Or.inl ⟨by rfl, ?_⟩) hS0 ?_
    · intro w' ⟨s0, s1, s2⟩; go_simp
    simp only [List.getElem_toArray, List.getElem_cons_succ, List.getElem_cons_zero, Act.put, List.setIfInBounds_toArray, List.set_cons_zero, List.set_cons_succ]
    clear hS0
  all_goals
    have HZ3 := Lib.hid (HZ.out.below HX3.out)
    have hXw : w.heap.size ≤ X := by omega
    have hkeep : ∀ g, g ≠ X → (((Y3.setCell ⟨X, 0, none⟩ (.int .i64 (e + 1))).setCell ⟨X, 1, none⟩ (.slice a3 L.length c3)).setCell ⟨X, 2, none⟩ (.int .i64 nw)).heap[g]? = Y3.heap[g]? := fun g hg => by
      rw [Below.heap_setCell _ _ _ _ (by simpa using hg), Below.heap_setCell _ _ _ _ (by simpa using hg), Below.heap_setCell _ _ _ _ (by simpa using hg)]
    have hb4 : Below w.heap.size w (((Y3.setCell ⟨X, 0, none⟩ (.int .i64 (e + 1))).setCell ⟨X, 1, none⟩ (.slice a3 L.length c3)).setCell ⟨X, 2, none⟩ (.int .i64 nw)) := ((HZ3.out.b.setCell (p := ⟨X, 0, none⟩) hXw (.int .i64 (e + 1))).setCell (p := ⟨X, 1, none⟩) hXw (.slice a3 L.length c3)).setCell (p := ⟨X, 2, none⟩) hXw (.int .i64 nw)
    have HB4 : Hid (RC (((Y3.setCell ⟨X, 0, none⟩ (.int .i64 (e + 1))).setCell ⟨X, 1, none⟩ (.slice a3 L.length c3)).setCell ⟨X, 2, none⟩ (.int .i64 nw)) X (e + 1) (.slice a3 L.length c3) nw) := Lib.hid (rc_put HBX.out _ _ _ _ _)
    have HZ4 : Hid (TwoB w (((Y3.setCell ⟨X, 0, none⟩ (.int .i64 (e + 1))).setCell ⟨X, 1, none⟩ (.slice a3 L.length c3)).setCell ⟨X, 2, none⟩ (.int .i64 nw)) e (some ⟨g, o, none⟩) l.length cap nw l) := Lib.hid ⟨HZ3.out.a.kept (hkeep _ (by omega)), HZ3.out.z.kept (hkeep _ (by omega)), HZ3.out.v.kept (by simp) (fun j hj => hkeep j (by have hj2 : g = j := Option.some.inj hj; have := HIL.out; omega)), hb4⟩
    have HO4 : Hid (IOwn (((Y3.setCell ⟨X, 0, none⟩ (.int .i64 (e + 1))).setCell ⟨X, 1, none⟩ (.slice a3 L.length c3)).setCell ⟨X, 2, none⟩ (.int .i64 nw)) w.heap.size (.slice a3 L.length c3) L) := Lib.hid (HO3.out.kept (fun j hj => hkeep j (HO2.out j hj).2))
    have HSF := Lib.hid HZ4.out.a.1
    obtain ⟨⟨x0, x1, x2⟩, y0, y1, y2⟩ := HBX.out
    clear hkeep hb4
    refine wpAnyH_ready (rs := [18]) (by kernel_rfl) (by simp) ?_
    refine (AllReadyH.cons rfl (fun K hK => ?_) AllReadyH.nil)
    simp only [List.getElem_toArray, List.getElem_cons_succ, List.getElem_cons_zero]
    go_simp
    refine hK.out _ _ HSF.out (fun _ => ?_)
    clear hK x0 x1 x2 y0 y1 y2
    refine wpAnyH_done (by kernel_rfl) ?_ _
    clear HSF HBX HO3 HX3 HZ3 HS HIA
    generalize ((Y3.setCell ⟨X, 0, none⟩ (.int .i64 (e + 1))).setCell ⟨X, 1, none⟩ (.slice a3 L.length c3)).setCell ⟨X, 2, none⟩ (.int .i64 nw) = Y4 at *
    obtain ⟨⟨x0, x1, x2⟩, y0, y1, y2⟩ := HB4.out
    by_cases hnn : nw = n
    · have hq : (nw == n) = true := beq_iff_eq.2 hnn
      rw [if_pos hnn] at HR
      have hk5' : ∀ g, g ≠ X → (Y4.setCell ⟨X, 2, none⟩ (.int .i64 0)).heap[g]? = Y4.heap[g]? := fun g hg => Below.heap_setCell _ _ _ _ (by simpa using hg)
      have HB5 : Hid (RC (Y4.setCell ⟨X, 2, none⟩ (.int .i64 0)) X (e + 1) (.slice a3 L.length c3) 0) := Lib.hid (rc_set2 HB4.out 0)
      have HZ5 : Hid (TwoB w (Y4.setCell ⟨X, 2, none⟩ (.int .i64 0)) e (some ⟨g, o, none⟩) l.length cap nw l) := Lib.hid ⟨HZ4.out.a.kept (hk5' _ (by omega)), HZ4.out.z.kept (hk5' _ (by omega)), HZ4.out.v.kept (by simp) (fun j hj => hk5' j (by have hj2 : g = j := Option.some.inj hj; have := HIL.out; omega)), HZ4.out.b.setCell (p := ⟨X, 2, none⟩) hXw (.int .i64 0)⟩
      have HO5 : Hid (IOwn (Y4.setCell ⟨X, 2, none⟩ (.int .i64 0)) w.heap.size (.slice a3 L.length c3) L) := Lib.hid (HO4.out.kept (fun j hj => hk5' j (HO2.out j hj).2))
      clear hk5' hnn
      go_wp2_with fail
      clear x0 x1 x2 y0 y1 y2
      generalize Y4.setCell ⟨X, 2, none⟩ (.int .i64 0) = Y5 at *
      obtain ⟨⟨x0, x1, x2⟩, _⟩ := HB5.out
      go_wp2_with fail
      cases hc : mayR ⟨e + 1, L, 0⟩ with
      | true =>
        refine (checked_yes (e + 1) 0 a3 c3 L Y5 HO5.out.at (by omega) hc).mono ?_
        rintro _ W6 ⟨rfl, hy⟩
        have HZ6 := Lib.hid (HZ5.out.below hy)
        replace HO5 := Lib.hid (HO5.out.below hy)
        clear hy x0 x1 x2
        have hF := box_facts HZ6.out (e + 1) 0 a3 L.length c3
        dsimp only at hF
        obtain ⟨t0, t1, t2, hB3, hk⟩ := hF
        obtain ⟨⟨d0, d1, d2⟩, f0, f1, f2⟩ := HZ6.out.z
        have HRR : R = (⟨e + 1, L, 0⟩, true) := by rw [← HR.out]; unfold chkR; rw [hc]; rfl
        subst HRR
        go_wp2_with fail
        exact bodyPost_ret (v := .tuple #[.agg #[.int .i64 (e + 1), .slice a3 L.length c3, .int .i64 0], .bool true]) (by simp [results, Tryz.results43, go_sem, t0, t1, t2]) rfl ⟨_, _, rfl, HO5.out.kept (fun g hg => hk g (by have := (HO2.out g hg).1; omega)), hB3⟩
      | false =>
        refine (checked_no (e + 1) 0 a3 c3 L Y5 HO5.out.at (by omega) hc).mono ?_
        rintro _ W6 ⟨rfl, hy⟩
        have HZ6 := Lib.hid (HZ5.out.below hy)
        replace HO5 := Lib.hid (HO5.out.below hy)
        clear hy x0 x1 x2
        have hF := box_facts HZ6.out 0 0 none 0 0
        dsimp only at hF
        obtain ⟨t0, t1, t2, hB3, hk⟩ := hF
        obtain ⟨⟨d0, d1, d2⟩, f0, f1, f2⟩ := HZ6.out.z
        have HRR : R = (Ro.zero, false) := by rw [← HR.out]; unfold chkR; rw [hc]; rfl
        subst HRR
        go_wp2_with fail
        exact bodyPost_ret (v := .tuple #[.agg #[.int .i64 0, .slice none 0 0, .int .i64 0], .bool false]) (by simp [results, Tryz.results43, go_sem, t0, t1, t2]) rfl ⟨_, _, rfl, IOwn.nil _ _, hB3⟩
    · have hq : (nw == n) = false := by rw [beq_eq_false_iff_ne]; exact hnn
      rw [if_neg hnn] at HR
      clear hnn
      have HZ5 := Lib.hid HZ4.out
      have HO5 := Lib.hid HO4.out
      clear HZ4 HO4
      obtain ⟨Y5, hY5⟩ : ∃ Y5, Y4 = Y5 := ⟨_, rfl⟩
      subst hY5
      go_wp2_with fail
      cases hc : mayR ⟨e + 1, L, nw⟩ with
      | true =>
        refine (checked_yes (e + 1) nw a3 c3 L Y4 HO5.out.at (by omega) hc).mono ?_
        rintro _ W6 ⟨rfl, hy⟩
        have HZ6 := Lib.hid (HZ5.out.below hy)
        replace HO5 := Lib.hid (HO5.out.below hy)
        clear hy x0 x1 x2
        have hF := box_facts HZ6.out (e + 1) nw a3 L.length c3
        dsimp only at hF
        obtain ⟨t0, t1, t2, hB3, hk⟩ := hF
        obtain ⟨⟨d0, d1, d2⟩, f0, f1, f2⟩ := HZ6.out.z
        have HRR : R = (⟨e + 1, L, nw⟩, true) := by rw [← HR.out]; unfold chkR; rw [hc]; rfl
        subst HRR
        go_wp2_with fail
        exact bodyPost_ret (v := .tuple #[.agg #[.int .i64 (e + 1), .slice a3 L.length c3, .int .i64 nw], .bool true]) (by simp [results, Tryz.results43, go_sem, t0, t1, t2]) rfl ⟨_, _, rfl, HO5.out.kept (fun g hg => hk g (by have := (HO2.out g hg).1; omega)), hB3⟩
      | false =>
        refine (checked_no (e + 1) nw a3 c3 L Y4 HO5.out.at (by omega) hc).mono ?_
        rintro _ W6 ⟨rfl, hy⟩
        have HZ6 := Lib.hid (HZ5.out.below hy)
        replace HO5 := Lib.hid (HO5.out.below hy)
        clear hy x0 x1 x2
        have hF := box_facts HZ6.out 0 0 none 0 0
        dsimp only at hF
        obtain ⟨t0, t1, t2, hB3, hk⟩ := hF
        obtain ⟨⟨d0, d1, d2⟩, f0, f1, f2⟩ := HZ6.out.z
        have HRR : R = (Ro.zero, false) := by rw [← HR.out]; unfold chkR; rw [hc]; rfl
        subst HRR
        go_wp2_with fail
        exact bodyPost_ret (v := .tuple #[.agg #[.int .i64 0, .slice none 0 0, .int .i64 0], .bool false]) (by simp [results, Tryz.results43, go_sem, t0, t1, t2]) rfl ⟨_, _, rfl, IOwn.nil _ _, hB3⟩

end Go.Proofs.YtmamepmfbfinlaaGreatDoor
