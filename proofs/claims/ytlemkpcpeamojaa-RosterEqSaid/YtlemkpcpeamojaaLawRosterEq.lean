/-
  RosterEq answers true.
-/
import Derived.Test.YtlemkpcpeamojaaRosK
import Derived.Test.YtlemkpcpeamojaaRegD
namespace Go.Proofs.Ytlemkpcpeamojaa
open Go.RowKit

set_option maxRecDepth 100000 in
set_option maxHeartbeats 16000000 in
theorem rosterEq_walk (e nw : Int) (v : Value) (l : List Int) (e' nw' : Int) (v' : Value) (l' : List Int) (which x : Int) (w : World) (h : IsAt w v l) (hn : l.length ≤ 9223372036854775807) (h' : IsAt w v' l') (hn' : l'.length ≤ 9223372036854775807) :
    Calls Try.prog 4 #[.agg #[.int .i64 e, v, .int .i64 nw], .agg #[.int .i64 e', v', .int .i64 nw'], .int .i64 which, .int .i64 x] w fun r w' => r = .returned (.bool true) ∧ Below w.heap.size w w' := by
  obtain ⟨ad, cap, rfl, _⟩ := h.shape
  obtain ⟨ad', cap', rfl, _⟩ := h'.shape
  obtain ⟨k1, k2, hb⟩ := two_boxes w e nw e' nw' ad ad' l.length l'.length cap cap' 24
  have HA0 : Hid (CB ((w.alloc (.cells #[.int .i64 e, .slice ad l.length cap, .int .i64 nw] 24)).alloc (.cells #[.int .i64 e', .slice ad' l'.length cap', .int .i64 nw'] 24)) w.heap.size ⟨e, l, nw⟩ ad l.length cap ∧ CB ((w.alloc (.cells #[.int .i64 e, .slice ad l.length cap, .int .i64 nw] 24)).alloc (.cells #[.int .i64 e', .slice ad' l'.length cap', .int .i64 nw'] 24)) (w.heap.size + 1) ⟨e', l', nw'⟩ ad' l'.length cap') := Lib.hid ⟨⟨k1, h.below hb⟩, ⟨k2, h'.below hb⟩⟩
  have HB0 := Lib.hid hb
  have hL7 : (l.take 7).length ≤ 7 := by rw [List.length_take]; omega
  have hM7 : (l'.take 7).length ≤ 7 := by rw [List.length_take]; omega
  clear h h' k1 k2 hb
  go_enter Try.func4, Try.ntmps4
  go_wp2_with fail
  generalize ((w.alloc (.cells #[.int .i64 e, .slice ad l.length cap, .int .i64 nw] 24)).alloc (.cells #[.int .i64 e', .slice ad' l'.length cap', .int .i64 nw'] 24)) = W at *
  refine (begun9_p W).mono ?_
  rintro _ W1 ⟨rfl, hb⟩
  replace HA0 := Lib.hid (And.intro (HA0.out.1.below hb) (HA0.out.2.below hb))
  replace HB0 := Lib.hid (HB0.out.trans (hb.mono HB0.out.size))
  clear hb
  go_wp2_with fail
  have hdr : Below W1.heap.size W1 W1.drew := (Below.refl _ _).drew
  have HA1 := Lib.hid (And.intro (HA0.out.1.below hdr) (HA0.out.2.below hdr))
  have HX1 := Lib.hid hdr
  clear hdr
  refine wp_region_D (S := fun L Y => (L.getD 4 false = false → RC Y w.heap.size e (.slice ad l.length cap) nw) ∧ (L.getD 5 false = false → RC Y (w.heap.size + 1) e' (.slice ad' l'.length cap') nw')) (by kernel_rfl) ⟨fun _ => HA1.out.1.c, fun _ => HA1.out.2.c⟩ (fun hS0 => ?_)
  refine wpAnyD_take (i := 0) (v := Value.agg #[.int .i64 e, .slice ad l.length cap, .int .i64 nw]) rfl (by kernel_rfl) (by kernel_rfl) (by kernel_rfl) (by kernel_rfl) (fun _ _ _ h => h) (fun L w => by simp only [getD_set_ne false (by decide : (0 : Nat) ≠ 4), getD_set_ne false (by decide : (0 : Nat) ≠ 5)]) (by kernel_rfl) hS0 ⟨by rfl, fun L w' hL hD hS => ?_⟩ (fun hS0 => ?_)
  · obtain ⟨⟨q0, q1, q2⟩, _⟩ := hS.1 (blocked (j := 4) hD hL (by kernel_rfl))
    refine .inl ?_
    go_simp
  refine wpAnyD_take (i := 2) (v := Value.agg #[.int .i64 e', .slice ad' l'.length cap', .int .i64 nw']) rfl (by kernel_rfl) (by kernel_rfl) (by kernel_rfl) (by kernel_rfl) (fun _ _ _ h => h) (fun L w => by simp only [getD_set_ne false (by decide : (2 : Nat) ≠ 4), getD_set_ne false (by decide : (2 : Nat) ≠ 5)]) (by kernel_rfl) hS0 ⟨by rfl, fun L w' hL hD hS => ?_⟩ (fun hS0 => ?_)
  · obtain ⟨⟨q0, q1, q2⟩, _⟩ := hS.2 (blocked (j := 5) hD hL (by kernel_rfl))
    refine .inl ?_
    go_simp
  simp only [List.getElem_toArray, List.getElem_cons_succ, List.getElem_cons_zero, Act.put, List.setIfInBounds_toArray, List.set_cons_zero, List.set_cons_succ]
  have hY0 : W1.heap.size ≤ W1.drew.heap.size := HX1.out.size
  generalize W1.drew = Y0 at *
  refine wpAnyD_one (i := 1) (by kernel_rfl) rfl (by kernel_rfl) (fun K hK => ?_)
  simp only [List.getElem_toArray, List.getElem_cons_succ, List.getElem_cons_zero]
  go_simp
  refine (lroster_p e nw _ l Y0 HA1.out.1.v hn).mono ?_
  rintro _ Y1 ⟨aA, cA, rfl, ho, hy⟩
  generalize l.take 7 = LA at *
  replace HX1 := Lib.hid (HX1.out.trans (hy.mono HX1.out.size))
  replace HA1 := Lib.hid (And.intro (HA1.out.1.below hy) (HA1.out.2.below hy))
  have HY1 : Hid (W1.heap.size ≤ Y1.heap.size) := Lib.hid HX1.out.size
  have HOA : Hid (IOwn Y1 (w.heap.size + 2) (.slice aA LA.length cA) LA) := Lib.hid (ho.mono (by have h1 := HA0.out.2.c.lt; have h2 := HX1.out.size; have h3 := hy.size; omega))
  clear hy ho hS0
  refine hK.out _ _ ⟨fun _ => HA1.out.1.c, fun _ => HA1.out.2.c⟩ (fun hS0 => ?_)
  clear hK
  refine wpAnyD_one (i := 3) (by kernel_rfl) rfl (by kernel_rfl) (fun K hK => ?_)
  simp only [List.getElem_toArray, List.getElem_cons_succ, List.getElem_cons_zero]
  go_simp
  refine (lroster_p e' nw' _ l' Y1 HA1.out.2.v hn').mono ?_
  rintro _ Y2 ⟨aB, cB, rfl, ho, hy⟩
  generalize l'.take 7 = LB at *
  replace HX1 := Lib.hid (HX1.out.trans (hy.mono HX1.out.size))
  replace HA1 := Lib.hid (And.intro (HA1.out.1.below hy) (HA1.out.2.below hy))
  replace HOA := Lib.hid (HOA.out.below hy)
  have HOB : Hid (IOwn Y2 (w.heap.size + 2) (.slice aB LB.length cB) LB) := Lib.hid (ho.mono (by have h1 := HA0.out.2.c.lt; have h3 := HX1.out.size; have h4 := HY1.out; omega))
  have HB2 : Hid (Below w.heap.size w Y2) := Lib.hid (HB0.out.trans (HX1.out.mono HB0.out.size))
  clear hy ho hS0
  refine hK.out _ _ ⟨fun _ => HA1.out.1.c, fun _ => HA1.out.2.c⟩ (fun hS0 => ?_)
  clear hK
  have hkA : ∀ g, g ≠ w.heap.size → (((Y2.setCell ⟨w.heap.size, 0, none⟩ (.int .i64 e)).setCell ⟨w.heap.size, 1, none⟩ (.slice aA LA.length cA)).setCell ⟨w.heap.size, 2, none⟩ (.int .i64 nw)).heap[g]? = Y2.heap[g]? := fun g hg => by
    rw [Below.heap_setCell _ _ _ _ (by simpa using hg), Below.heap_setCell _ _ _ _ (by simpa using hg), Below.heap_setCell _ _ _ _ (by simpa using hg)]
  have HCA : Hid (RC (((Y2.setCell ⟨w.heap.size, 0, none⟩ (.int .i64 e)).setCell ⟨w.heap.size, 1, none⟩ (.slice aA LA.length cA)).setCell ⟨w.heap.size, 2, none⟩ (.int .i64 nw)) w.heap.size e (.slice aA LA.length cA) nw) := Lib.hid (rc_put HA1.out.1.c _ _ _ _ _)
  have HCB : Hid (RC (((Y2.setCell ⟨w.heap.size, 0, none⟩ (.int .i64 e)).setCell ⟨w.heap.size, 1, none⟩ (.slice aA LA.length cA)).setCell ⟨w.heap.size, 2, none⟩ (.int .i64 nw)) (w.heap.size + 1) e' (.slice ad' l'.length cap') nw') := Lib.hid (HA1.out.2.c.kept (hkA _ (by omega)))
  have HOA3 : Hid (IOwn (((Y2.setCell ⟨w.heap.size, 0, none⟩ (.int .i64 e)).setCell ⟨w.heap.size, 1, none⟩ (.slice aA LA.length cA)).setCell ⟨w.heap.size, 2, none⟩ (.int .i64 nw)) (w.heap.size + 2) (.slice aA LA.length cA) LA) := Lib.hid (HOA.out.kept (fun j hj => hkA j (by have := (HOA.out.lt hj).1; omega)))
  have HOB3 : Hid (IOwn (((Y2.setCell ⟨w.heap.size, 0, none⟩ (.int .i64 e)).setCell ⟨w.heap.size, 1, none⟩ (.slice aA LA.length cA)).setCell ⟨w.heap.size, 2, none⟩ (.int .i64 nw)) (w.heap.size + 2) (.slice aB LB.length cB) LB) := Lib.hid (HOB.out.kept (fun j hj => hkA j (by have := (HOB.out.lt hj).1; omega)))
  have HB3 : Hid (Below w.heap.size w (((Y2.setCell ⟨w.heap.size, 0, none⟩ (.int .i64 e)).setCell ⟨w.heap.size, 1, none⟩ (.slice aA LA.length cA)).setCell ⟨w.heap.size, 2, none⟩ (.int .i64 nw))) := Lib.hid (((HB2.out.setCell (p := ⟨w.heap.size, 0, none⟩) (Nat.le_refl _) (.int .i64 e)).setCell (p := ⟨w.heap.size, 1, none⟩) (Nat.le_refl _) (.slice aA LA.length cA)).setCell (p := ⟨w.heap.size, 2, none⟩) (Nat.le_refl _) (.int .i64 nw))
  obtain ⟨⟨q0, q1, q2⟩, f0, f1, f2⟩ := HA1.out.1.c
  dsimp only at q0 q1 q2
  clear hkA hS0
  refine wpAnyD_one (i := 4) (by kernel_rfl) rfl (by kernel_rfl) (fun K hK => ?_)
  simp only [List.getElem_toArray, List.getElem_cons_succ, List.getElem_cons_zero]
  go_simp
  refine hK.out _ _ ⟨fun h => (by cases h), fun _ => HCB.out⟩ (fun hS0 => ?_)
  clear hK q0 q1 q2 f0 f1 f2 HA1 HOA HOB HB2 hS0
  generalize ((Y2.setCell ⟨w.heap.size, 0, none⟩ (.int .i64 e)).setCell ⟨w.heap.size, 1, none⟩ (.slice aA LA.length cA)).setCell ⟨w.heap.size, 2, none⟩ (.int .i64 nw) = Y3 at *
  have hkB : ∀ g, g ≠ w.heap.size + 1 → (((Y3.setCell ⟨w.heap.size + 1, 0, none⟩ (.int .i64 e')).setCell ⟨w.heap.size + 1, 1, none⟩ (.slice aB LB.length cB)).setCell ⟨w.heap.size + 1, 2, none⟩ (.int .i64 nw')).heap[g]? = Y3.heap[g]? := fun g hg => by
    rw [Below.heap_setCell _ _ _ _ (by simpa using hg), Below.heap_setCell _ _ _ _ (by simpa using hg), Below.heap_setCell _ _ _ _ (by simpa using hg)]
  have HOA4 : Hid (IOwn (((Y3.setCell ⟨w.heap.size + 1, 0, none⟩ (.int .i64 e')).setCell ⟨w.heap.size + 1, 1, none⟩ (.slice aB LB.length cB)).setCell ⟨w.heap.size + 1, 2, none⟩ (.int .i64 nw')) (w.heap.size + 2) (.slice aA LA.length cA) LA) := Lib.hid (HOA3.out.kept (fun j hj => hkB j (by have := (HOA3.out.lt hj).1; omega)))
  have HOB4 : Hid (IOwn (((Y3.setCell ⟨w.heap.size + 1, 0, none⟩ (.int .i64 e')).setCell ⟨w.heap.size + 1, 1, none⟩ (.slice aB LB.length cB)).setCell ⟨w.heap.size + 1, 2, none⟩ (.int .i64 nw')) (w.heap.size + 2) (.slice aB LB.length cB) LB) := Lib.hid (HOB3.out.kept (fun j hj => hkB j (by have := (HOB3.out.lt hj).1; omega)))
  have HC4 : Hid (CB (((Y3.setCell ⟨w.heap.size + 1, 0, none⟩ (.int .i64 e')).setCell ⟨w.heap.size + 1, 1, none⟩ (.slice aB LB.length cB)).setCell ⟨w.heap.size + 1, 2, none⟩ (.int .i64 nw')) w.heap.size ⟨e, LA, nw⟩ aA LA.length cA) := Lib.hid ⟨HCA.out.kept (hkB _ (by omega)), HOA4.out.at⟩
  have HD4 : Hid (CB (((Y3.setCell ⟨w.heap.size + 1, 0, none⟩ (.int .i64 e')).setCell ⟨w.heap.size + 1, 1, none⟩ (.slice aB LB.length cB)).setCell ⟨w.heap.size + 1, 2, none⟩ (.int .i64 nw')) (w.heap.size + 1) ⟨e', LB, nw'⟩ aB LB.length cB) := Lib.hid ⟨rc_put HCB.out _ _ _ _ _, HOB4.out.at⟩
  have HB4 : Hid (Below w.heap.size w (((Y3.setCell ⟨w.heap.size + 1, 0, none⟩ (.int .i64 e')).setCell ⟨w.heap.size + 1, 1, none⟩ (.slice aB LB.length cB)).setCell ⟨w.heap.size + 1, 2, none⟩ (.int .i64 nw'))) := Lib.hid (((HB3.out.setCell (p := ⟨w.heap.size + 1, 0, none⟩) (by simp) (.int .i64 e')).setCell (p := ⟨w.heap.size + 1, 1, none⟩) (by simp) (.slice aB LB.length cB)).setCell (p := ⟨w.heap.size + 1, 2, none⟩) (by simp) (.int .i64 nw'))
  obtain ⟨⟨q0, q1, q2⟩, f0, f1, f2⟩ := HCB.out
  clear hkB
  refine wpAnyD_one (i := 5) (by kernel_rfl) rfl (by kernel_rfl) (fun K hK => ?_)
  simp only [List.getElem_toArray, List.getElem_cons_succ, List.getElem_cons_zero]
  go_simp
  refine hK.out _ _ ⟨fun h => (by cases h), fun h => (by cases h)⟩ (fun hS0 => ?_)
  clear hK q0 q1 q2 f0 f1 f2 HCA HCB HOA3 HOB3 HB3 hS0
  refine wpAnyD_done (by kernel_rfl) ?_ _
  generalize ((Y3.setCell ⟨w.heap.size + 1, 0, none⟩ (.int .i64 e')).setCell ⟨w.heap.size + 1, 1, none⟩ (.slice aB LB.length cB)).setCell ⟨w.heap.size + 1, 2, none⟩ (.int .i64 nw') = V at *
  obtain ⟨⟨p0, p1, p2⟩, _⟩ := HC4.out.c
  dsimp only at p0 p1 p2
  have HLR := lroster_p e nw _ LA V HC4.out.v (by omega)
  rw [List.take_of_length_le hL7] at HLR
  have HLR := Lib.hid HLR
  obtain ⟨y1, hy1⟩ : ∃ y, which.tmod 3 = y := ⟨_, rfl⟩
  have hyb : -2 ≤ y1 ∧ y1 ≤ 2 := by
    rw [← hy1]
    have g1 := Int.tmod_lt_of_pos which (show (0 : Int) < 3 by decide)
    have g2 := Int.lt_tmod_of_pos which (show (0 : Int) < 3 by decide)
    omega
  have hwr : IntKind.i64.wrap (y1 + 3) = y1 + 3 := IntWalk.i64_in _ (by omega)
  obtain ⟨z, hz⟩ : ∃ z, (y1 + 3).tmod 3 = z := ⟨_, rfl⟩
  have hz3 : z = 0 ∨ z = 1 ∨ z = 2 := by
    rw [← hz]
    have g1 := Int.tmod_lt_of_pos (y1 + 3) (show (0 : Int) < 3 by decide)
    have g2 := Int.tmod_nonneg (a := y1 + 3) 3 (by omega)
    omega
  clear hyb
  go_wp2_with fail
  refine HLR.out.mono ?_
  rintro _ W3 ⟨aC, cC, rfl, ho, hy⟩
  have HV3 : Hid (V.heap.size ≤ W3.heap.size ∧ (∀ j, (Value.slice aA LA.length cA).ownBlock = some j → j < V.heap.size) ∧ (∀ j, (Value.slice aB LB.length cB).ownBlock = some j → j < V.heap.size)) := Lib.hid ⟨hy.size, fun j hj => (HOA4.out.lt hj).2, fun j hj => (HOB4.out.lt hj).2⟩
  have HO3 := Lib.hid ho
  have HY3 := Lib.hid hy
  clear ho hy HLR p0 p1 p2
  rcases hz3 with rfl | rfl | rfl
  · have hb : Below V.heap.size V (W3.alloc (.cells #[.int .i64 x, .slice aC LA.length cC, .int .i64 nw] 24)) := HY3.out.alloc HY3.out.size _
    have HC9 := Lib.hid (HC4.out.below hb)
    have HD9 := Lib.hid (HD4.out.below hb)
    have HB9 := Lib.hid (HB4.out.trans (hb.mono HB4.out.size))
    have HE9 : Hid (RC (W3.alloc (.cells #[.int .i64 x, .slice aC LA.length cC, .int .i64 nw] 24)) W3.heap.size x (.slice aC LA.length cC) nw ∧ IsAt (W3.alloc (.cells #[.int .i64 x, .slice aC LA.length cC, .int .i64 nw] 24)) (.slice aC LA.length cC) LA) := Lib.hid ⟨RC.new W3 x aC LA.length cC nw _, (HO3.out.below ((Below.refl _ _).alloc (Nat.le_refl _) _)).at⟩
    have HLX : Hid (LA.length ≤ 8) := Lib.hid (by omega)
    clear hb
    go_wp2_with fail
    generalize (W3.alloc (.cells #[.int .i64 x, .slice aC LA.length cC, .int .i64 nw] 24)) = V9 at *
    generalize W3.heap.size = S9 at *
    clear HC4 HD4 HB4 HO3 HY3 HV3
    obtain ⟨r1, hr1⟩ : ∃ b, eqR ⟨e, LA, nw⟩ ⟨e', LB, nw'⟩ = b := ⟨_, rfl⟩
    obtain ⟨r2, hr2⟩ : ∃ b, eqR ⟨e, LA, nw⟩ ⟨x, LA, nw⟩ = b := ⟨_, rfl⟩
    have y1 : Hid (∀ d os, Calls Try.prog 20 #[.agg #[.int .i64 e, .slice aA LA.length cA, .int .i64 nw], .agg #[.int .i64 e', .slice aB LB.length cB, .int .i64 nw']] (Go.Sort.grow (redrawn V9 d) os) fun e w'' => e = .returned (.bool r1) ∧ ∃ p : Regrown, w'' = Go.Sort.grow (redrawn V9 p.d) p.os) := Lib.hid (fun d os => Calls.regrown_of (by rw [← hr1]; exact eq_p e nw e' nw' _ _ LA LB _ (HC9.out.v.below (below_regrown V9 d os)) (HD9.out.v.below (below_regrown V9 d os)) (by omega) (by omega)))
    have y2 : Hid (∀ d os, Calls Try.prog 19 #[.agg #[.int .i64 e, .slice aA LA.length cA, .int .i64 nw], .agg #[.int .i64 e', .slice aB LB.length cB, .int .i64 nw']] (Go.Sort.grow (redrawn V9 d) os) fun e w'' => e = .returned (.bool r1) ∧ ∃ p : Regrown, w'' = Go.Sort.grow (redrawn V9 p.d) p.os) := Lib.hid (fun d os => Calls.regrown_of (by rw [← hr1]; exact reqr_p e nw e' nw' _ _ LA LB _ (HC9.out.v.below (below_regrown V9 d os)) (HD9.out.v.below (below_regrown V9 d os)) (by omega) (by omega)))
    have y3 : Hid (∀ d os, Calls Try.prog 20 #[.agg #[.int .i64 e, .slice aA LA.length cA, .int .i64 nw], .agg #[.int .i64 x, .slice aC LA.length cC, .int .i64 nw]] (Go.Sort.grow (redrawn V9 d) os) fun e w'' => e = .returned (.bool r2) ∧ ∃ p : Regrown, w'' = Go.Sort.grow (redrawn V9 p.d) p.os) := Lib.hid (fun d os => Calls.regrown_of (by rw [← hr2]; exact eq_p e nw x nw _ _ LA LA _ (HC9.out.v.below (below_regrown V9 d os)) (HE9.out.2.below (below_regrown V9 d os)) (by omega) (by have := HLX.out; omega)))
    have y4 : Hid (∀ d os, Calls Try.prog 19 #[.agg #[.int .i64 e, .slice aA LA.length cA, .int .i64 nw], .agg #[.int .i64 x, .slice aC LA.length cC, .int .i64 nw]] (Go.Sort.grow (redrawn V9 d) os) fun e w'' => e = .returned (.bool r2) ∧ ∃ p : Regrown, w'' = Go.Sort.grow (redrawn V9 p.d) p.os) := Lib.hid (fun d os => Calls.regrown_of (by rw [← hr2]; exact reqr_p e nw x nw _ _ LA LA _ (HC9.out.v.below (below_regrown V9 d os)) (HE9.out.2.below (below_regrown V9 d os)) (by omega) (by have := HLX.out; omega)))
    obtain ⟨⟨p0, p1, p2⟩, _⟩ := HC9.out.c
    obtain ⟨⟨q0, q1, q2⟩, _⟩ := HD9.out.c
    obtain ⟨⟨s0, s1, s2⟩, _⟩ := HE9.out.1
    dsimp only at p0 p1 p2 q0 q1 q2
    have gp0 := cell_regrown p0
    have gp1 := cell_regrown p1
    have gp2 := cell_regrown p2
    have gq0 := cell_regrown q0
    have gq1 := cell_regrown q1
    have gq2 := cell_regrown q2
    have gs0 := cell_regrown s0
    have gs1 := cell_regrown s1
    have gs2 := cell_regrown s2
    clear p0 p1 p2 q0 q1 q2 s0 s1 s2 hr1 hr2 hy1 hwr hz
    go_wp2_with fail
    refine wp_region_quiet_below (by kernel_rfl) (by kernel_rfl) ?_
    repeat (quiet_step (first | (go_at_call_of 20 (Value.slice aB LB.length cB); exact y1.out _ _) | (go_at_call_of 19 (Value.slice aB LB.length cB); exact y2.out _ _) | (go_at_call 20; exact y3.out _ _) | (go_at_call 19; exact y4.out _ _)))
    refine wpQuiet_nil ?_
    intro _ hw'
    obtain ⟨⟨dq, osq⟩, hw''⟩ := hw'
    subst hw''
    have hE := HB9.out.trans ((below_regrown V9 dq osq).mono HB9.out.size)
    go_wp2_with fail
    go_ret
    exact ⟨rfl, hE⟩
  · have hb : Below V.heap.size V (W3.alloc (.cells #[.int .i64 e, .slice aC LA.length cC, .int .i64 x] 24)) := HY3.out.alloc HY3.out.size _
    have HC9 := Lib.hid (HC4.out.below hb)
    have HD9 := Lib.hid (HD4.out.below hb)
    have HB9 := Lib.hid (HB4.out.trans (hb.mono HB4.out.size))
    have HE9 : Hid (RC (W3.alloc (.cells #[.int .i64 e, .slice aC LA.length cC, .int .i64 x] 24)) W3.heap.size e (.slice aC LA.length cC) x ∧ IsAt (W3.alloc (.cells #[.int .i64 e, .slice aC LA.length cC, .int .i64 x] 24)) (.slice aC LA.length cC) LA) := Lib.hid ⟨RC.new W3 e aC LA.length cC x _, (HO3.out.below ((Below.refl _ _).alloc (Nat.le_refl _) _)).at⟩
    have HLX : Hid (LA.length ≤ 8) := Lib.hid (by omega)
    clear hb
    go_wp2_with fail
    generalize (W3.alloc (.cells #[.int .i64 e, .slice aC LA.length cC, .int .i64 x] 24)) = V9 at *
    generalize W3.heap.size = S9 at *
    clear HC4 HD4 HB4 HO3 HY3 HV3
    obtain ⟨r1, hr1⟩ : ∃ b, eqR ⟨e, LA, nw⟩ ⟨e', LB, nw'⟩ = b := ⟨_, rfl⟩
    obtain ⟨r2, hr2⟩ : ∃ b, eqR ⟨e, LA, nw⟩ ⟨e, LA, x⟩ = b := ⟨_, rfl⟩
    have y1 : Hid (∀ d os, Calls Try.prog 20 #[.agg #[.int .i64 e, .slice aA LA.length cA, .int .i64 nw], .agg #[.int .i64 e', .slice aB LB.length cB, .int .i64 nw']] (Go.Sort.grow (redrawn V9 d) os) fun e w'' => e = .returned (.bool r1) ∧ ∃ p : Regrown, w'' = Go.Sort.grow (redrawn V9 p.d) p.os) := Lib.hid (fun d os => Calls.regrown_of (by rw [← hr1]; exact eq_p e nw e' nw' _ _ LA LB _ (HC9.out.v.below (below_regrown V9 d os)) (HD9.out.v.below (below_regrown V9 d os)) (by omega) (by omega)))
    have y2 : Hid (∀ d os, Calls Try.prog 19 #[.agg #[.int .i64 e, .slice aA LA.length cA, .int .i64 nw], .agg #[.int .i64 e', .slice aB LB.length cB, .int .i64 nw']] (Go.Sort.grow (redrawn V9 d) os) fun e w'' => e = .returned (.bool r1) ∧ ∃ p : Regrown, w'' = Go.Sort.grow (redrawn V9 p.d) p.os) := Lib.hid (fun d os => Calls.regrown_of (by rw [← hr1]; exact reqr_p e nw e' nw' _ _ LA LB _ (HC9.out.v.below (below_regrown V9 d os)) (HD9.out.v.below (below_regrown V9 d os)) (by omega) (by omega)))
    have y3 : Hid (∀ d os, Calls Try.prog 20 #[.agg #[.int .i64 e, .slice aA LA.length cA, .int .i64 nw], .agg #[.int .i64 e, .slice aC LA.length cC, .int .i64 x]] (Go.Sort.grow (redrawn V9 d) os) fun e w'' => e = .returned (.bool r2) ∧ ∃ p : Regrown, w'' = Go.Sort.grow (redrawn V9 p.d) p.os) := Lib.hid (fun d os => Calls.regrown_of (by rw [← hr2]; exact eq_p e nw e x _ _ LA LA _ (HC9.out.v.below (below_regrown V9 d os)) (HE9.out.2.below (below_regrown V9 d os)) (by omega) (by have := HLX.out; omega)))
    have y4 : Hid (∀ d os, Calls Try.prog 19 #[.agg #[.int .i64 e, .slice aA LA.length cA, .int .i64 nw], .agg #[.int .i64 e, .slice aC LA.length cC, .int .i64 x]] (Go.Sort.grow (redrawn V9 d) os) fun e w'' => e = .returned (.bool r2) ∧ ∃ p : Regrown, w'' = Go.Sort.grow (redrawn V9 p.d) p.os) := Lib.hid (fun d os => Calls.regrown_of (by rw [← hr2]; exact reqr_p e nw e x _ _ LA LA _ (HC9.out.v.below (below_regrown V9 d os)) (HE9.out.2.below (below_regrown V9 d os)) (by omega) (by have := HLX.out; omega)))
    obtain ⟨⟨p0, p1, p2⟩, _⟩ := HC9.out.c
    obtain ⟨⟨q0, q1, q2⟩, _⟩ := HD9.out.c
    obtain ⟨⟨s0, s1, s2⟩, _⟩ := HE9.out.1
    dsimp only at p0 p1 p2 q0 q1 q2
    have gp0 := cell_regrown p0
    have gp1 := cell_regrown p1
    have gp2 := cell_regrown p2
    have gq0 := cell_regrown q0
    have gq1 := cell_regrown q1
    have gq2 := cell_regrown q2
    have gs0 := cell_regrown s0
    have gs1 := cell_regrown s1
    have gs2 := cell_regrown s2
    clear p0 p1 p2 q0 q1 q2 s0 s1 s2 hr1 hr2 hy1 hwr hz
    go_wp2_with fail
    refine wp_region_quiet_below (by kernel_rfl) (by kernel_rfl) ?_
    repeat (quiet_step (first | (go_at_call_of 20 (Value.slice aB LB.length cB); exact y1.out _ _) | (go_at_call_of 19 (Value.slice aB LB.length cB); exact y2.out _ _) | (go_at_call 20; exact y3.out _ _) | (go_at_call 19; exact y4.out _ _)))
    refine wpQuiet_nil ?_
    intro _ hw'
    obtain ⟨⟨dq, osq⟩, hw''⟩ := hw'
    subst hw''
    have hE := HB9.out.trans ((below_regrown V9 dq osq).mono HB9.out.size)
    go_wp2_with fail
    go_ret
    exact ⟨rfl, hE⟩
  · obtain ⟨i0, hi, hz0, hz1, hz2⟩ := int_info
    have hb1 : Below V.heap.size V (W3.alloc (.cells #[.int .i64 e, .slice aC LA.length cC, .int .i64 nw] 24)) := HY3.out.alloc HY3.out.size _
    have hb2 : Below V.heap.size V ((W3.alloc (.cells #[.int .i64 e, .slice aC LA.length cC, .int .i64 nw] 24)).alloc (.cells #[.int .i64 x] 3)) := hb1.alloc hb1.size _
    have HOC : Hid (IOwn ((W3.alloc (.cells #[.int .i64 e, .slice aC LA.length cC, .int .i64 nw] 24)).alloc (.cells #[.int .i64 x] 3)) V.heap.size (.slice aC LA.length cC) LA) := Lib.hid (HO3.out.below (((Below.refl _ _).alloc (Nat.le_refl _) _).alloc (by simp) _))
    have HES : Hid (RC ((W3.alloc (.cells #[.int .i64 e, .slice aC LA.length cC, .int .i64 nw] 24)).alloc (.cells #[.int .i64 x] 3)) W3.heap.size e (.slice aC LA.length cC) nw) := Lib.hid ((RC.new W3 e aC LA.length cC nw _).alloc _)
    have HBX2 := Lib.hid hb2
    have hnx : IAt ((W3.alloc (.cells #[.int .i64 e, .slice aC LA.length cC, .int .i64 nw] 24)).alloc (.cells #[.int .i64 x] 3)) (W3.heap.size + 1) 0 [x] := fun j y hy => by
      match j, hy with
      | 0, hy => simp at hy; subst hy; go_simp
      | j + 1, hy => simp at hy
    have hws : V.heap.size ≤ W3.heap.size + 1 + 1 := by have := HV3.out.1; omega
    clear hb1 hb2
    go_wp2_with (at_builtin; refine wpList_append_own_at _ rfl _ _ 22 rfl V.heap.size 3 i0 _ 1 8 Try.underlying22 hi hz0 hz1 hz2 rfl (by decide) (.slice aC LA.length cC) LA.length (icells LA) rfl HOC.out ⟨W3.heap.size + 1, 0, none⟩ 1 1 (icells [x]) rfl (icells_length [x]) hnx.cells (icells_one [x]) (by unfold maxLen; omega) (by omega) (by simpa using hws) ?_)
    intro v' W5 hown hgrow hnil hloc
    have ho5 : IOwn W5 V.heap.size v' (LA ++ [x]) := by
      unfold IOwn
      rw [icells_append, List.length_append]
      exact hown
    obtain ⟨aX, cX, rfl⟩ := ho5.shape
    have hb5 : Below V.heap.size V W5 := HBX2.out.grown hgrow HBX2.out.size (fun j hj => (HOC.out.lt hj).1)
    have HE5 : Hid (RC W5 W3.heap.size e (.slice aC LA.length cC) nw) := Lib.hid (HES.out.kept (hgrow.block _ HES.out.lt (fun e9 => by have := (HO3.out.lt e9.symm).2; omega)))
    have HLX : Hid ((LA ++ [x]).length ≤ 8) := Lib.hid (by simp; omega)
    have hnb : ∀ j, (Value.slice aX (LA ++ [x]).length cX).ownBlock = some j → j ≠ W3.heap.size := fun j hj => by
      rcases hloc with h | h
      · have := (HO3.out.lt (h ▸ hj)).2
        omega
      · rw [hj] at h
        have h9 := Option.some.inj h
        have h8 : (((W3.alloc (.cells #[.int .i64 e, .slice aC LA.length cC, .int .i64 nw] 24)).alloc (.cells #[.int .i64 x] 3))).heap.size = W3.heap.size + 1 + 1 := by simp
        omega
    have HNB := Lib.hid hnb
    clear hown hgrow hnil hloc hnx hws hi hz0 hz1 hz2 hnb
    generalize LA ++ [x] = LX at *
    have HC5 := Lib.hid (HC4.out.below hb5)
    have HD5 := Lib.hid (HD4.out.below hb5)
    have HB5 := Lib.hid (HB4.out.trans (hb5.mono HB4.out.size))
    have HO5 := Lib.hid ho5
    clear hb5 ho5
    generalize W3.heap.size = S9 at *
    obtain ⟨⟨s0, s1, s2⟩, t0, t1, t2⟩ := HE5.out
    go_wp2_with fail
    have hk9 : ∀ g, g ≠ S9 → (W5.setCell ⟨S9, 1, none⟩ (.slice aX LX.length cX)).heap[g]? = W5.heap[g]? := fun g hg => Below.heap_setCell _ _ _ _ (by simpa using hg)
    have HE9 : Hid (RC (W5.setCell ⟨S9, 1, none⟩ (.slice aX LX.length cX)) S9 e (.slice aX LX.length cX) nw ∧ IsAt (W5.setCell ⟨S9, 1, none⟩ (.slice aX LX.length cX)) (.slice aX LX.length cX) LX) := Lib.hid ⟨⟨⟨by go_simp, by go_simp, by go_simp⟩, by go_simp, by go_simp, by go_simp⟩, (HO5.out.kept (fun j hj => hk9 j (HNB.out j hj))).at⟩
    have HC9 : Hid (CB (W5.setCell ⟨S9, 1, none⟩ (.slice aX LX.length cX)) w.heap.size ⟨e, LA, nw⟩ aA LA.length cA) := Lib.hid ⟨HC5.out.c.kept (hk9 _ (by have := HC4.out.c.lt; have := HV3.out.1; omega)), HC5.out.v.kept (by simp) (fun j hj => hk9 j (by have := HV3.out.2.1 j hj; have := HV3.out.1; omega))⟩
    have HD9 : Hid (CB (W5.setCell ⟨S9, 1, none⟩ (.slice aX LX.length cX)) (w.heap.size + 1) ⟨e', LB, nw'⟩ aB LB.length cB) := Lib.hid ⟨HD5.out.c.kept (hk9 _ (by have := HD4.out.c.lt; have := HV3.out.1; omega)), HD5.out.v.kept (by simp) (fun j hj => hk9 j (by have := HV3.out.2.2 j hj; have := HV3.out.1; omega))⟩
    have HB9 : Hid (Below w.heap.size w (W5.setCell ⟨S9, 1, none⟩ (.slice aX LX.length cX))) := Lib.hid (HB5.out.setCell (p := ⟨S9, 1, none⟩) (by show w.heap.size ≤ S9; have := HC4.out.c.lt; have := HV3.out.1; omega) (.slice aX LX.length cX))
    clear hk9 s0 s1 s2 t0 t1 t2 HC5 HD5 HB5 HE5 HES HOC HBX2 HO5 HC4 HD4 HB4 HO3 HY3 HV3
    generalize W5.setCell ⟨S9, 1, none⟩ (.slice aX LX.length cX) = V9 at *
    obtain ⟨r1, hr1⟩ : ∃ b, eqR ⟨e, LA, nw⟩ ⟨e', LB, nw'⟩ = b := ⟨_, rfl⟩
    obtain ⟨r2, hr2⟩ : ∃ b, eqR ⟨e, LA, nw⟩ ⟨e, LX, nw⟩ = b := ⟨_, rfl⟩
    have y1 : Hid (∀ d os, Calls Try.prog 20 #[.agg #[.int .i64 e, .slice aA LA.length cA, .int .i64 nw], .agg #[.int .i64 e', .slice aB LB.length cB, .int .i64 nw']] (Go.Sort.grow (redrawn V9 d) os) fun e w'' => e = .returned (.bool r1) ∧ ∃ p : Regrown, w'' = Go.Sort.grow (redrawn V9 p.d) p.os) := Lib.hid (fun d os => Calls.regrown_of (by rw [← hr1]; exact eq_p e nw e' nw' _ _ LA LB _ (HC9.out.v.below (below_regrown V9 d os)) (HD9.out.v.below (below_regrown V9 d os)) (by omega) (by omega)))
    have y2 : Hid (∀ d os, Calls Try.prog 19 #[.agg #[.int .i64 e, .slice aA LA.length cA, .int .i64 nw], .agg #[.int .i64 e', .slice aB LB.length cB, .int .i64 nw']] (Go.Sort.grow (redrawn V9 d) os) fun e w'' => e = .returned (.bool r1) ∧ ∃ p : Regrown, w'' = Go.Sort.grow (redrawn V9 p.d) p.os) := Lib.hid (fun d os => Calls.regrown_of (by rw [← hr1]; exact reqr_p e nw e' nw' _ _ LA LB _ (HC9.out.v.below (below_regrown V9 d os)) (HD9.out.v.below (below_regrown V9 d os)) (by omega) (by omega)))
    have y3 : Hid (∀ d os, Calls Try.prog 20 #[.agg #[.int .i64 e, .slice aA LA.length cA, .int .i64 nw], .agg #[.int .i64 e, .slice aX LX.length cX, .int .i64 nw]] (Go.Sort.grow (redrawn V9 d) os) fun e w'' => e = .returned (.bool r2) ∧ ∃ p : Regrown, w'' = Go.Sort.grow (redrawn V9 p.d) p.os) := Lib.hid (fun d os => Calls.regrown_of (by rw [← hr2]; exact eq_p e nw e nw _ _ LA LX _ (HC9.out.v.below (below_regrown V9 d os)) (HE9.out.2.below (below_regrown V9 d os)) (by omega) (by have := HLX.out; omega)))
    have y4 : Hid (∀ d os, Calls Try.prog 19 #[.agg #[.int .i64 e, .slice aA LA.length cA, .int .i64 nw], .agg #[.int .i64 e, .slice aX LX.length cX, .int .i64 nw]] (Go.Sort.grow (redrawn V9 d) os) fun e w'' => e = .returned (.bool r2) ∧ ∃ p : Regrown, w'' = Go.Sort.grow (redrawn V9 p.d) p.os) := Lib.hid (fun d os => Calls.regrown_of (by rw [← hr2]; exact reqr_p e nw e nw _ _ LA LX _ (HC9.out.v.below (below_regrown V9 d os)) (HE9.out.2.below (below_regrown V9 d os)) (by omega) (by have := HLX.out; omega)))
    obtain ⟨⟨p0, p1, p2⟩, _⟩ := HC9.out.c
    obtain ⟨⟨q0, q1, q2⟩, _⟩ := HD9.out.c
    obtain ⟨⟨s0, s1, s2⟩, _⟩ := HE9.out.1
    dsimp only at p0 p1 p2 q0 q1 q2
    have gp0 := cell_regrown p0
    have gp1 := cell_regrown p1
    have gp2 := cell_regrown p2
    have gq0 := cell_regrown q0
    have gq1 := cell_regrown q1
    have gq2 := cell_regrown q2
    have gs0 := cell_regrown s0
    have gs1 := cell_regrown s1
    have gs2 := cell_regrown s2
    clear p0 p1 p2 q0 q1 q2 s0 s1 s2 hr1 hr2 hy1 hwr hz
    go_wp2_with fail
    refine wp_region_quiet_below (by kernel_rfl) (by kernel_rfl) ?_
    repeat (quiet_step (first | (go_at_call_of 20 (Value.slice aB LB.length cB); exact y1.out _ _) | (go_at_call_of 19 (Value.slice aB LB.length cB); exact y2.out _ _) | (go_at_call 20; exact y3.out _ _) | (go_at_call 19; exact y4.out _ _)))
    refine wpQuiet_nil ?_
    intro _ hw'
    obtain ⟨⟨dq, osq⟩, hw''⟩ := hw'
    subst hw''
    have hE := HB9.out.trans ((below_regrown V9 dq osq).mono HB9.out.size)
    go_wp2_with fail
    go_ret
    exact ⟨rfl, hE⟩

end Go.Proofs.Ytlemkpcpeamojaa
