/-
  The contracts of roster's Add and Drop.
-/
import Derived.Test.YtmamepmfbfinlaaGreatDoorRosC
import Derived.Deep.RegionHeld3
import Derived.Deep.RegionLaw
import Derived.BigRegion
namespace Go.Proofs.YtmamepmfbfinlaaGreatDoor
open Go.RowKit

/-- What Add and Drop answer. -/
def RoOut (r : Ro × Bool) (w : World) (e : Ending) (w' : World) : Prop :=
  ∃ ad cap, e = .returned (.tuple #[.agg #[.int .i64 r.1.ep, .slice ad r.1.l.length cap, .int .i64 r.1.nw], .bool r.2]) ∧ IOwn w' w.heap.size (.slice ad r.1.l.length cap) r.1.l ∧ Below w.heap.size w w'

/-- A chain in a box, and a box for the answer. -/
structure TwoB (w W : World) (e : Int) (ad : Option Addr) (m cap : Nat) (nw : Int) (l : List Int) : Prop where
  a : RC W w.heap.size e (.slice ad m cap) nw
  z : RC W (w.heap.size + 1) 0 (.slice none 0 0) 0
  v : IsAt W (.slice ad m cap) l
  b : Below w.heap.size w W

theorem TwoB.below {w W W' : World} {e nw : Int} {ad : Option Addr} {m cap : Nat} {l : List Int} (h : TwoB w W e ad m cap nw l) (hb : Below W.heap.size W W') : TwoB w W' e ad m cap nw l :=
  ⟨h.a.below hb, h.z.below hb, h.v.below hb, h.b.trans (hb.mono h.b.size)⟩

theorem twoB_new (w : World) (e nw : Int) (ad : Option Addr) (cap : Nat) (l : List Int) (h : IsAt w (.slice ad l.length cap) l) : TwoB w ((w.alloc (.cells #[.int .i64 e, .slice ad l.length cap, .int .i64 nw] 24)).alloc (.cells #[.int .i64 0, .slice none 0 0, .int .i64 0] 24)) e ad l.length cap nw l := by
  have hb : Below w.heap.size w ((w.alloc (.cells #[.int .i64 e, .slice ad l.length cap, .int .i64 nw] 24)).alloc (.cells #[.int .i64 0, .slice none 0 0, .int .i64 0] 24)) := ((Below.refl _ w).alloc (Nat.le_refl _) _).alloc (by simp) _
  refine ⟨(RC.new w e ad l.length cap nw 24).alloc _, ?_, h.below hb, hb⟩
  have := RC.new (w.alloc (.cells #[.int .i64 e, .slice ad l.length cap, .int .i64 nw] 24)) 0 none 0 0 0 24
  simpa using this

/-- The answer's box is written. -/
theorem box_facts {w W : World} {e0 nw0 : Int} {ad0 : Option Addr} {m0 cap0 : Nat} {l0 : List Int} (h : TwoB w W e0 ad0 m0 cap0 nw0 l0) (e nw : Int) (ad : Option Addr) (m c : Nat) :
    let v := Value.slice ad m c
    let W' := ((W.setCell ⟨w.heap.size + 1, 0, none⟩ (.int .i64 e)).setCell ⟨w.heap.size + 1, 1, none⟩ v).setCell ⟨w.heap.size + 1, 2, none⟩ (.int .i64 nw)
    W'.cell? ⟨w.heap.size + 1, 0, none⟩ = some (.int .i64 e) ∧ W'.cell? ⟨w.heap.size + 1, 1, none⟩ = some v ∧ W'.cell? ⟨w.heap.size + 1, 2, none⟩ = some (.int .i64 nw) ∧ Below w.heap.size w W' ∧ (∀ g, g ≠ w.heap.size + 1 → W'.heap[g]? = W.heap[g]?) := by
  obtain ⟨⟨d0, d1, d2⟩, f0, f1, f2⟩ := h.z
  refine ⟨by go_simp, by go_simp, by go_simp, ((h.b.setCell (p := ⟨w.heap.size + 1, 0, none⟩) (by simp) (.int .i64 e)).setCell (p := ⟨w.heap.size + 1, 1, none⟩) (by simp) (.slice ad m c)).setCell (p := ⟨w.heap.size + 1, 2, none⟩) (by simp) (.int .i64 nw), fun g hg => ?_⟩
  rw [Below.heap_setCell _ _ _ _ (by simpa using hg), Below.heap_setCell _ _ _ _ (by simpa using hg), Below.heap_setCell _ _ _ _ (by simpa using hg)]

theorem mayR_len {e : Int} {l : List Int} {nw : Int} (h : mayR ⟨e, l, nw⟩ = true) : 1 ≤ e ∧ e ≤ 1099511627776 ∧ 1 ≤ l.length ∧ l.length ≤ 5 := by
  unfold mayR mayNs at h
  dsimp only at h
  rw [Bool.and_eq_true, Bool.and_eq_true, Bool.and_eq_true] at h
  have h1 := of_decide_eq_true h.1
  have h2 := of_decide_eq_true h.2.1.1
  omega

set_option maxRecDepth 100000 in
set_option maxHeartbeats 4000000 in
theorem add_p (e nw n : Int) (v : Value) (l : List Int) (w : World) (h : IsAt w v l) (hn : l.length ≤ 1000) :
    Calls Tryz.prog 42 #[.agg #[.int .i64 e, v, .int .i64 nw], .int .i64 n] w (RoOut (addR ⟨e, l, nw⟩ n) w) := by
  obtain ⟨ad, cap, rfl, _⟩ := h.shape
  have HT := Lib.hid (twoB_new w e nw ad cap l h)
  obtain ⟨R, hR⟩ : ∃ R, addR ⟨e, l, nw⟩ n = R := ⟨_, rfl⟩
  rw [hR]
  unfold addR at hR
  dsimp only at hR
  have HM := romay_p e nw _ l _ HT.out.v (by omega)
  cases hm : mayR ⟨e, l, nw⟩ with
  | false =>
    rw [hm] at hR HM
    simp only [Bool.false_and, Bool.false_eq_true, if_false] at hR
    subst hR
    have HM := Lib.hid HM
    clear h hm
    go_enter Tryz.func42, Tryz.ntmps42
    go_wp2_with fail
    generalize ((w.alloc (.cells #[.int .i64 e, .slice ad l.length cap, .int .i64 nw] 24)).alloc (.cells #[.int .i64 0, .slice none 0 0, .int .i64 0] 24)) = W at *
    obtain ⟨⟨c0, c1, c2⟩, _⟩ := HT.out.a
    go_wp2_with fail
    refine HM.out.mono ?_
    rintro _ w2 ⟨rfl, hb2⟩
    have HZ := Lib.hid (HT.out.below hb2)
    clear c0 c1 c2 HM hb2 HT
    obtain ⟨⟨c0, c1, c2⟩, _⟩ := HZ.out.a
    obtain ⟨⟨d0, d1, d2⟩, f0, f1, f2⟩ := HZ.out.z
    go_wp2_with fail
    have hF := box_facts HZ.out 0 0 none 0 0
    dsimp only at hF
    obtain ⟨t0, t1, t2, hB3, _⟩ := hF
    exact bodyPost_ret (v := .tuple #[.agg #[.int .i64 0, .slice none 0 0, .int .i64 0], .bool false]) (by simp [results, Tryz.results42, go_sem, t0, t1, t2]) rfl ⟨none, 0, rfl, IOwn.nil _ _, hB3⟩
  | true =>
  have hlen := mayR_len hm
  rw [hm] at hR HM
  rw [Bool.true_and] at hR
  have HM := Lib.hid HM
  by_cases hz : nw = 0
  case neg =>
    have hzb : (nw == 0) = false := by rw [beq_eq_false_iff_ne]; exact hz
    simp only [hz, decide_false, Bool.false_eq_true, if_false] at hR
    subst hR
    clear h hm hlen hz
    go_enter Tryz.func42, Tryz.ntmps42
    go_wp2_with fail
    generalize ((w.alloc (.cells #[.int .i64 e, .slice ad l.length cap, .int .i64 nw] 24)).alloc (.cells #[.int .i64 0, .slice none 0 0, .int .i64 0] 24)) = W at *
    obtain ⟨⟨c0, c1, c2⟩, _⟩ := HT.out.a
    go_wp2_with fail
    refine HM.out.mono ?_
    rintro _ w2 ⟨rfl, hb2⟩
    have HZ := Lib.hid (HT.out.below hb2)
    clear c0 c1 c2 HM hb2 HT
    obtain ⟨⟨c0, c1, c2⟩, _⟩ := HZ.out.a
    obtain ⟨⟨d0, d1, d2⟩, f0, f1, f2⟩ := HZ.out.z
    go_wp2_with fail
    have hF := box_facts HZ.out 0 0 none 0 0
    dsimp only at hF
    obtain ⟨t0, t1, t2, hB3, _⟩ := hF
    exact bodyPost_ret (v := .tuple #[.agg #[.int .i64 0, .slice none 0 0, .int .i64 0], .bool false]) (by simp [results, Tryz.results42, go_sem, t0, t1, t2]) rfl ⟨none, 0, rfl, IOwn.nil _ _, hB3⟩
  have hzb : (nw == 0) = true := beq_iff_eq.2 hz
  simp only [hz, decide_true, if_true] at hR
  have HR := Lib.hid hR
  have hadl := h
  obtain ⟨x0, hx0⟩ : ∃ x, l[0]? = some x := ⟨_, List.getElem?_eq_getElem (by omega)⟩
  obtain ⟨g, o, rfl, _⟩ := h.get hx0
  have hw1 : IntKind.i64.wrap (e + 1) = e + 1 := IntWalk.i64_in _ (by omega)
  clear h hm hz hR hx0 hadl
  go_enter Tryz.func42, Tryz.ntmps42
  go_wp2_with fail
  generalize ((w.alloc (.cells #[.int .i64 e, .slice (some ⟨g, o, none⟩) l.length cap, .int .i64 nw] 24)).alloc (.cells #[.int .i64 0, .slice none 0 0, .int .i64 0] 24)) = W at *
  obtain ⟨⟨c0, c1, c2⟩, _⟩ := HT.out.a
  go_wp2_with fail
  refine HM.out.mono ?_
  rintro _ w2 ⟨rfl, hb2⟩
  have HZ := Lib.hid (HT.out.below hb2)
  clear c0 c1 c2 HM hb2 HT
  obtain ⟨⟨c0, c1, c2⟩, _⟩ := HZ.out.a
  go_wp2_with fail
  have HS : Hid (∀ Y, Below w2.heap.size w2 Y → Y.cell? ⟨w.heap.size, 0, none⟩ = some (.int .i64 e) ∧ Y.cell? ⟨w.heap.size, 1, none⟩ = some (.slice (some ⟨g, o, none⟩) l.length cap) ∧ Y.cell? ⟨w.heap.size, 2, none⟩ = some (.int .i64 nw)) := Lib.hid (fun Y hY => (HZ.out.below hY).a.1)
  have HX0 : Hid (Below w2.heap.size w2 w2.drew) := Lib.hid (Below.refl _ _).drew
  have hS0 := HS.out _ HX0.out
  clear c0 c1 c2
  refine wp_region_held_drew (S := fun Y => Y.cell? ⟨w.heap.size, 0, none⟩ = some (.int .i64 e) ∧ Y.cell? ⟨w.heap.size, 1, none⟩ = some (.slice (some ⟨g, o, none⟩) l.length cap) ∧ Y.cell? ⟨w.heap.size, 2, none⟩ = some (.int .i64 nw)) (by kernel_rfl) hS0 (fun _ => ?_)
  refine wpAnyH_take (i := 0) (v := Value.pointer (some ⟨w.heap.size, 0, none⟩)) rfl (by kernel_rfl) (by kernel_rfl) (by kernel_rfl) (fun _ _ _ h => h) (Or.inl ⟨by rfl, ?_⟩) hS0 ?_
  · intro w' ⟨s0, s1, s2⟩; go_simp
  refine wpAnyH_take (i := 1) (v := Value.int .i64 e) rfl (by kernel_rfl) (by kernel_rfl) (by kernel_rfl) (fun _ _ _ h => h) (Or.inl ⟨by rfl, ?_⟩) hS0 ?_
  · intro w' ⟨s0, s1, s2⟩; go_simp
  refine wpAnyH_take (i := 2) (v := Value.int .i64 (e + 1)) rfl (by kernel_rfl) (by kernel_rfl) (by kernel_rfl) (fun _ _ _ h => h) (Or.inl ⟨by rfl, ?_⟩) hS0 ?_
  · intro w' ⟨s0, s1, s2⟩; go_simp
  refine wpAnyH_take (i := 3) (v := Value.pointer (some ⟨w.heap.size, 1, none⟩)) rfl (by kernel_rfl) (by kernel_rfl) (by kernel_rfl) (fun _ _ _ h => h) (Or.inl ⟨by rfl, ?_⟩) hS0 ?_
  · intro w' ⟨s0, s1, s2⟩; go_simp
  refine wpAnyH_take (i := 4) (v := Value.slice (some ⟨g, o, none⟩) l.length cap) rfl (by kernel_rfl) (by kernel_rfl) (by kernel_rfl) (fun _ _ _ h => h) (Or.inl ⟨by rfl, ?_⟩) hS0 ?_
  · intro w' ⟨s0, s1, s2⟩; go_simp
  refine wpAnyH_take (i := 5) (v := Value.int .i64 n) rfl (by kernel_rfl) (by kernel_rfl) (by kernel_rfl) (fun _ _ _ h => h) (Or.inl ⟨by rfl, ?_⟩) hS0 ?_
  · intro w' ⟨s0, s1, s2⟩; go_simp
  refine wpAnyH_take (i := 9) (v := Value.int .i64 n) rfl (by kernel_rfl) (by kernel_rfl) (by kernel_rfl) (fun _ _ _ h => h) (Or.inl ⟨by rfl, ?_⟩) hS0 ?_
  · intro w' ⟨s0, s1, s2⟩; go_simp
  simp only [List.getElem_toArray, List.getElem_cons_succ, List.getElem_cons_zero, Act.put, List.setIfInBounds_toArray, List.set_cons_zero, List.set_cons_succ]
  clear hS0
  generalize hY0 : w2.drew = Y0 at *

  clear hY0
  refine wpAnyH_ready (rs := [6]) (by kernel_rfl) (by simp) ?_
  refine (AllReadyH.cons rfl (fun K hK => ?_) AllReadyH.nil)
  simp only [List.getElem_toArray, List.getElem_cons_succ, List.getElem_cons_zero]
  go_simp
  have hy : Below Y0.heap.size Y0 (Y0.alloc (.cells #[.int .i64 n] 3)) := (Below.refl _ _).alloc (Nat.le_refl _) _
  have HN0 : Hid ((Y0.alloc (.cells #[.int .i64 n] 3)).cell? ⟨Y0.heap.size, 0, none⟩ = some (.int .i64 n)) := Lib.hid (by go_simp)
  have HX1 := Lib.hid (HX0.out.trans (hy.mono HX0.out.size))
  have hlt1 : Y0.heap.size < (Y0.alloc (.cells #[.int .i64 n] 3)).heap.size := by simp
  refine hK.out _ _ (HS.out _ HX1.out) (fun _ => ?_)
  clear hK hy
  generalize Y0.alloc (.cells #[.int .i64 n] 3) = Y1 at *
  generalize Y0.heap.size = C at *
  refine wpAnyH_ready (rs := [7]) (by kernel_rfl) (by simp) ?_
  refine (AllReadyH.cons rfl (fun K hK => ?_) AllReadyH.nil)
  simp only [List.getElem_toArray, List.getElem_cons_succ, List.getElem_cons_zero]
  go_simp
  have hy : Below Y1.heap.size Y1 (Y1.alloc (.cells #[.slice (some ⟨g, o, none⟩) l.length cap, .slice (some ⟨C, 0, none⟩) 1 1] 22)) := (Below.refl _ _).alloc (Nat.le_refl _) _
  have HC0 : Hid ((Y1.alloc (.cells #[.slice (some ⟨g, o, none⟩) l.length cap, .slice (some ⟨C, 0, none⟩) 1 1] 22)).cell? ⟨Y1.heap.size, 0, none⟩ = some (.slice (some ⟨g, o, none⟩) l.length cap)) := Lib.hid (by go_simp)
  have HC1 : Hid ((Y1.alloc (.cells #[.slice (some ⟨g, o, none⟩) l.length cap, .slice (some ⟨C, 0, none⟩) 1 1] 22)).cell? ⟨Y1.heap.size, 1, none⟩ = some (.slice (some ⟨C, 0, none⟩) 1 1)) := Lib.hid (by go_simp)
  have HX2 := Lib.hid (HX1.out.trans (hy.mono HX1.out.size))
  have HN1 : Hid ((Y1.alloc (.cells #[.slice (some ⟨g, o, none⟩) l.length cap, .slice (some ⟨C, 0, none⟩) 1 1] 22)).cell? ⟨C, 0, none⟩ = some (.int .i64 n)) := Lib.hid (by rw [hy.cell hlt1]; exact HN0.out)
  have hlt2 : C < (Y1.alloc (.cells #[.slice (some ⟨g, o, none⟩) l.length cap, .slice (some ⟨C, 0, none⟩) 1 1] 22)).heap.size := Nat.lt_of_lt_of_le hlt1 hy.size
  have hlt3 : Y1.heap.size < (Y1.alloc (.cells #[.slice (some ⟨g, o, none⟩) l.length cap, .slice (some ⟨C, 0, none⟩) 1 1] 22)).heap.size := by simp
  refine hK.out _ _ (HS.out _ HX2.out) (fun _ => ?_)
  clear hK hy hlt1 HN0
  generalize Y1.alloc (.cells #[.slice (some ⟨g, o, none⟩) l.length cap, .slice (some ⟨C, 0, none⟩) 1 1] 22) = Y2 at *
  generalize Y1.heap.size = B at *
  refine wpAnyH_ready (rs := [8]) (by kernel_rfl) (by simp) ?_
  refine (AllReadyH.cons rfl (fun K hK => ?_) AllReadyH.nil)
  simp only [List.getElem_toArray, List.getElem_cons_succ, List.getElem_cons_zero]
  go_simp
  have hla : g < Y2.heap.size ∧ IAt Y2 g o l := by
    rcases (HZ.out.below HX2.out).v with ⟨e0, _⟩ | ⟨g', o', c', e0, _, _, h3, h4⟩
    · cases e0
    · simp only [Value.slice.injEq, Option.some.injEq, Addr.mk.injEq, and_true] at e0
      obtain ⟨⟨rfl, rfl⟩, _⟩ := e0
      exact ⟨h3, h4⟩
  have hlb : C < Y2.heap.size ∧ IAt Y2 C 0 [n] := ⟨hlt2, fun j x hx => by
    cases j with
    | zero => simp at hx; subst hx; exact HN1.out
    | succ j => simp at hx⟩
  refine (concat_p B g o cap C 0 1 l [n] Y2 hlt3 HC0.out HC1.out hla hlb (by omega) (by simp)).mono ?_
  rintro _ Y3 ⟨a3, c3, rfl, ho3, hy⟩
  have HX3 := Lib.hid (HX2.out.trans (hy.mono HX2.out.size))
  have HO2 : Hid (∀ j, (Value.slice a3 (l ++ [n]).length c3).ownBlock = some j → w.heap.size + 2 ≤ j) := Lib.hid (fun j hj => by
    have h1 := (ho3.lt hj).1
    have h2 := HX2.out.size
    have h3 := HZ.out.z.lt
    omega)
  have HO3 := Lib.hid (ho3.mono (show w.heap.size ≤ Y2.heap.size from Nat.le_trans HZ.out.b.size HX2.out.size))
  clear hy ho3 hla hlb HN1 HC0 HC1 hlt2 hlt3
  have hLL : (l ++ [n]).length ≤ 1001 := by simp; omega
  generalize l ++ [n] = L at *
  refine hK.out _ _ (HS.out _ HX3.out) (fun _ => ?_)
  clear hK
  have hS0 := HS.out _ HX3.out
  refine wpAnyH_take (i := 10) (v := Value.agg #[.int .i64 (e + 1), .slice a3 L.length c3, .int .i64 n]) rfl (by kernel_rfl) (by kernel_rfl) (by kernel_rfl) (fun _ _ _ h => h) (Or.inl ⟨by rfl, ?_⟩) hS0 ?_
  · intro w' ⟨s0, s1, s2⟩; go_simp
  simp only [List.getElem_toArray, List.getElem_cons_succ, List.getElem_cons_zero, Act.put, List.setIfInBounds_toArray, List.set_cons_zero, List.set_cons_succ]
  clear hS0
  refine wpAnyH_ready (rs := [11]) (by kernel_rfl) (by simp) ?_
  refine (AllReadyH.cons rfl (fun K hK => ?_) AllReadyH.nil)
  simp only [List.getElem_toArray, List.getElem_cons_succ, List.getElem_cons_zero]
  go_simp
  have HZ3 := Lib.hid (HZ.out.below HX3.out)
  have HOWN : Hid (∀ j, (Value.slice a3 L.length c3).ownBlock = some j → w.heap.size + 2 ≤ j) := HO2
  cases hc : mayR ⟨e + 1, L, n⟩ with
  | true =>
    refine (checked_yes (e + 1) n a3 c3 L Y3 HO3.out.at (by omega) hc).mono ?_
    rintro _ W4 ⟨rfl, hy⟩
    have HX4 := Lib.hid (HX3.out.trans (hy.mono HX3.out.size))
    have HZ4 := Lib.hid (HZ3.out.below hy)
    have HO4 := Lib.hid (HO3.out.below hy)
    have HOW : Hid (∀ j, (Value.slice a3 L.length c3).ownBlock = some j → w.heap.size + 2 ≤ j) := HOWN
    clear hy
    refine hK.out _ _ (HS.out _ HX4.out) (fun _ => ?_)
    clear hK
    have hS0 := HS.out _ HX4.out
    refine wpAnyH_take (i := 12) (v := Value.agg #[.int .i64 (e + 1), .slice a3 L.length c3, .int .i64 n]) rfl (by kernel_rfl) (by kernel_rfl) (by kernel_rfl) (fun _ _ _ h => h) (Or.inl ⟨by rfl, ?_⟩) hS0 ?_
    · intro w' ⟨s0, s1, s2⟩; go_simp
    refine wpAnyH_take (i := 13) (v := Value.bool true) rfl (by kernel_rfl) (by kernel_rfl) (by kernel_rfl) (fun _ _ _ h => h) (Or.inl ⟨by rfl, ?_⟩) hS0 ?_
    · intro w' ⟨s0, s1, s2⟩; go_simp
    simp only [List.getElem_toArray, List.getElem_cons_succ, List.getElem_cons_zero, Act.put, List.setIfInBounds_toArray, List.set_cons_zero, List.set_cons_succ]
    clear hS0
    have hF := box_facts HZ4.out (e + 1) n a3 L.length c3
    dsimp only at hF
    obtain ⟨t0, t1, t2, hB3, hk⟩ := hF
    have HT3 := Lib.hid (And.intro t0 (And.intro t1 (And.intro t2 (And.intro hB3 hk))))
    have HSF : Hid ((((W4.setCell ⟨w.heap.size + 1, 0, none⟩ (.int .i64 (e + 1))).setCell ⟨w.heap.size + 1, 1, none⟩ (.slice a3 L.length c3)).setCell ⟨w.heap.size + 1, 2, none⟩ (.int .i64 n)).cell? ⟨w.heap.size, 0, none⟩ = some (.int .i64 e) ∧ (((W4.setCell ⟨w.heap.size + 1, 0, none⟩ (.int .i64 (e + 1))).setCell ⟨w.heap.size + 1, 1, none⟩ (.slice a3 L.length c3)).setCell ⟨w.heap.size + 1, 2, none⟩ (.int .i64 n)).cell? ⟨w.heap.size, 1, none⟩ = some (.slice (some ⟨g, o, none⟩) l.length cap) ∧ (((W4.setCell ⟨w.heap.size + 1, 0, none⟩ (.int .i64 (e + 1))).setCell ⟨w.heap.size + 1, 1, none⟩ (.slice a3 L.length c3)).setCell ⟨w.heap.size + 1, 2, none⟩ (.int .i64 n)).cell? ⟨w.heap.size, 2, none⟩ = some (.int .i64 nw)) := Lib.hid (HZ4.out.a.kept (hk _ (by omega))).1
    clear t0 t1 t2 hB3 hk
    obtain ⟨⟨d0, d1, d2⟩, f0, f1, f2⟩ := HZ4.out.z
    refine wpAnyH_ready (rs := [14]) (by kernel_rfl) (by simp) ?_
    refine (AllReadyH.cons rfl (fun K hK => ?_) AllReadyH.nil)
    simp only [List.getElem_toArray, List.getElem_cons_succ, List.getElem_cons_zero]
    go_simp
    refine hK.out _ _ HSF.out (fun _ => ?_)
    clear hK d0 d1 d2 f0 f1 f2
    refine wpAnyH_ready (rs := [15]) (by kernel_rfl) (by simp) ?_
    refine (AllReadyH.cons rfl (fun K hK => ?_) AllReadyH.nil)
    simp only [List.getElem_toArray, List.getElem_cons_succ, List.getElem_cons_zero]
    go_simp
    refine hK.out _ _ HSF.out (fun _ => ?_)
    clear hK
    refine wpAnyH_done (by kernel_rfl) ?_ _
    have HRR : R = (⟨e + 1, L, n⟩, true) := by rw [← HR.out]; unfold chkR; rw [hc]; rfl
    subst HRR
    obtain ⟨t0, t1, t2, hB3, hk⟩ := HT3.out
    go_wp2_with fail
    exact bodyPost_ret (v := .tuple #[.agg #[.int .i64 (e + 1), .slice a3 L.length c3, .int .i64 n], .bool true]) (by simp [results, Tryz.results42, go_sem, t0, t1, t2]) rfl ⟨_, _, rfl, HO4.out.kept (fun g hg => hk g (by have := (HOW.out g hg); omega)), hB3⟩
  | false =>
    refine (checked_no (e + 1) n a3 c3 L Y3 HO3.out.at (by omega) hc).mono ?_
    rintro _ W4 ⟨rfl, hy⟩
    have HX4 := Lib.hid (HX3.out.trans (hy.mono HX3.out.size))
    have HZ4 := Lib.hid (HZ3.out.below hy)
    have HO4 := Lib.hid (HO3.out.below hy)
    have HOW : Hid (∀ j, (Value.slice a3 L.length c3).ownBlock = some j → w.heap.size + 2 ≤ j) := HOWN
    clear hy
    refine hK.out _ _ (HS.out _ HX4.out) (fun _ => ?_)
    clear hK
    have hS0 := HS.out _ HX4.out
    refine wpAnyH_take (i := 12) (v := Value.agg #[.int .i64 0, .slice none 0 0, .int .i64 0]) rfl (by kernel_rfl) (by kernel_rfl) (by kernel_rfl) (fun _ _ _ h => h) (Or.inl ⟨by rfl, ?_⟩) hS0 ?_
    · intro w' ⟨s0, s1, s2⟩; go_simp
    refine wpAnyH_take (i := 13) (v := Value.bool false) rfl (by kernel_rfl) (by kernel_rfl) (by kernel_rfl) (fun _ _ _ h => h) (Or.inl ⟨by rfl, ?_⟩) hS0 ?_
    · intro w' ⟨s0, s1, s2⟩; go_simp
    simp only [List.getElem_toArray, List.getElem_cons_succ, List.getElem_cons_zero, Act.put, List.setIfInBounds_toArray, List.set_cons_zero, List.set_cons_succ]
    clear hS0
    have hF := box_facts HZ4.out 0 0 none 0 0
    dsimp only at hF
    obtain ⟨t0, t1, t2, hB3, hk⟩ := hF
    have HT3 := Lib.hid (And.intro t0 (And.intro t1 (And.intro t2 (And.intro hB3 hk))))
    have HSF : Hid ((((W4.setCell ⟨w.heap.size + 1, 0, none⟩ (.int .i64 0)).setCell ⟨w.heap.size + 1, 1, none⟩ (.slice none 0 0)).setCell ⟨w.heap.size + 1, 2, none⟩ (.int .i64 0)).cell? ⟨w.heap.size, 0, none⟩ = some (.int .i64 e) ∧ (((W4.setCell ⟨w.heap.size + 1, 0, none⟩ (.int .i64 0)).setCell ⟨w.heap.size + 1, 1, none⟩ (.slice none 0 0)).setCell ⟨w.heap.size + 1, 2, none⟩ (.int .i64 0)).cell? ⟨w.heap.size, 1, none⟩ = some (.slice (some ⟨g, o, none⟩) l.length cap) ∧ (((W4.setCell ⟨w.heap.size + 1, 0, none⟩ (.int .i64 0)).setCell ⟨w.heap.size + 1, 1, none⟩ (.slice none 0 0)).setCell ⟨w.heap.size + 1, 2, none⟩ (.int .i64 0)).cell? ⟨w.heap.size, 2, none⟩ = some (.int .i64 nw)) := Lib.hid (HZ4.out.a.kept (hk _ (by omega))).1
    clear t0 t1 t2 hB3 hk
    obtain ⟨⟨d0, d1, d2⟩, f0, f1, f2⟩ := HZ4.out.z
    refine wpAnyH_ready (rs := [14]) (by kernel_rfl) (by simp) ?_
    refine (AllReadyH.cons rfl (fun K hK => ?_) AllReadyH.nil)
    simp only [List.getElem_toArray, List.getElem_cons_succ, List.getElem_cons_zero]
    go_simp
    refine hK.out _ _ HSF.out (fun _ => ?_)
    clear hK d0 d1 d2 f0 f1 f2
    refine wpAnyH_ready (rs := [15]) (by kernel_rfl) (by simp) ?_
    refine (AllReadyH.cons rfl (fun K hK => ?_) AllReadyH.nil)
    simp only [List.getElem_toArray, List.getElem_cons_succ, List.getElem_cons_zero]
    go_simp
    refine hK.out _ _ HSF.out (fun _ => ?_)
    clear hK
    refine wpAnyH_done (by kernel_rfl) ?_ _
    have HRR : R = (Ro.zero, false) := by rw [← HR.out]; unfold chkR; rw [hc]; rfl
    subst HRR
    obtain ⟨t0, t1, t2, hB3, hk⟩ := HT3.out
    go_wp2_with fail
    exact bodyPost_ret (v := .tuple #[.agg #[.int .i64 0, .slice none 0 0, .int .i64 0], .bool false]) (by simp [results, Tryz.results42, go_sem, t0, t1, t2]) rfl ⟨_, _, rfl, IOwn.nil _ _, hB3⟩

end Go.Proofs.YtmamepmfbfinlaaGreatDoor
