/-
  RosterAll answers true.
-/
import Derived.Test.YtlemkpcpeamojaaRosK
namespace Go.Proofs.Ytlemkpcpeamojaa
open Go.RowKit

set_option maxRecDepth 100000 in
set_option maxHeartbeats 16000000 in
theorem rosterAll_big (e nw : Int) (v : Value) (l : List Int) (n : Int) (w : World) (h : IsAt w v l) (hn : l.length ≤ 9223372036854775807) (hbig : e = 9223372036854775807) :
    Calls Try.prog 3 #[.agg #[.int .i64 e, v, .int .i64 nw], .int .i64 n] w fun r w' => r = .returned (.bool true) ∧ Below w.heap.size w w' := by
  have hbb : (e == 9223372036854775807) = true := beq_iff_eq.2 hbig
  have HBG := Lib.hid hbig
  clear hbig
  obtain ⟨ad, cap, rfl, _⟩ := h.shape
  have HB0 := Lib.hid (ro_below w e (.slice ad l.length cap) nw 24)
  have HC0 := Lib.hid (cb_new w ⟨e, l, nw⟩ ad cap h)
  have hL7 : (l.take 7).length ≤ 7 := by rw [List.length_take]; omega
  clear h
  go_enter Try.func3, Try.ntmps3
  go_wp2_with fail
  generalize w.alloc (.cells #[.int .i64 e, .slice ad l.length cap, .int .i64 nw] 24) = W at *
  refine (begun9_p W).mono ?_
  rintro _ W1 ⟨rfl, hb⟩
  replace HC0 := Lib.hid (HC0.out.below hb)
  replace HB0 := Lib.hid (HB0.out.trans (hb.mono HB0.out.size))
  clear hb
  obtain ⟨⟨p0, p1, p2⟩, _⟩ := HC0.out.c
  dsimp only at p0 p1 p2
  go_wp2_with fail
  clear p0 p1 p2
  refine (lroster_p e nw _ l W1 HC0.out.v hn).mono ?_
  rintro _ W2 ⟨a2, c2, rfl, ho, hy⟩
  generalize l.take 7 = L at *
  have HP := Lib.hid (box_put HC0.out HB0.out ho hy (e := e) (nw := nw))
  have HC2 := Lib.hid (HC0.out.below hy)
  clear ho hy HC0 HB0
  obtain ⟨⟨p0, p1, p2⟩, f0, f1, f2⟩ := HC2.out.c
  dsimp only at p0 p1 p2
  go_wp2_with fail
  clear p0 p1 p2 f0 f1 f2 HC2
  generalize ((W2.setCell ⟨w.heap.size, 0, none⟩ (.int .i64 e)).setCell ⟨w.heap.size, 1, none⟩ (.slice a2 L.length c2)).setCell ⟨w.heap.size, 2, none⟩ (.int .i64 nw) = V at *
  have HC := Lib.hid HP.out.1
  have HO := Lib.hid HP.out.2.1
  have HB := Lib.hid HP.out.2.2
  clear HP
  have HM := may_p e nw _ L V HC.out.v (by omega)
  rw [show mayR ⟨e, L, nw⟩ = false by have := HBG.out; unfold mayR; rw [decide_eq_false (show ¬ (1 ≤ e ∧ e ≤ 1099511627776) by omega)]; rfl] at HM
  have HM := Lib.hid HM
  refine HM.out.mono ?_
  rintro _ V2 ⟨rfl, hb⟩
  have HB2 := Lib.hid (HB.out.trans (hb.mono HB.out.size))
  clear hb HM
  go_wp2_with fail
  go_ret
  exact ⟨rfl, HB2.out⟩

set_option maxRecDepth 100000 in
set_option maxHeartbeats 16000000 in
theorem rosterAll_rest (e nw : Int) (v : Value) (l : List Int) (n : Int) (w : World) (h : IsAt w v l) (hn : l.length ≤ 9223372036854775807) (HEP : Hid (-9223372036854775808 ≤ e ∧ e < 9223372036854775807)) :
    Calls Try.prog 3 #[.agg #[.int .i64 e, v, .int .i64 nw], .int .i64 n] w fun r w' => r = .returned (.bool true) ∧ Below w.heap.size w w' := by
  have hbb : (e == 9223372036854775807) = false := by rw [beq_eq_false_iff_ne]; have := HEP.out; omega
  obtain ⟨ad, cap, rfl, _⟩ := h.shape
  have HB0 := Lib.hid (ro_below w e (.slice ad l.length cap) nw 24)
  have HC0 := Lib.hid (cb_new w ⟨e, l, nw⟩ ad cap h)
  have hL7 : (l.take 7).length ≤ 7 := by rw [List.length_take]; omega
  clear h
  go_enter Try.func3, Try.ntmps3
  go_wp2_with fail
  generalize w.alloc (.cells #[.int .i64 e, .slice ad l.length cap, .int .i64 nw] 24) = W at *
  refine (begun9_p W).mono ?_
  rintro _ W1 ⟨rfl, hb⟩
  replace HC0 := Lib.hid (HC0.out.below hb)
  replace HB0 := Lib.hid (HB0.out.trans (hb.mono HB0.out.size))
  clear hb
  obtain ⟨⟨p0, p1, p2⟩, _⟩ := HC0.out.c
  dsimp only at p0 p1 p2
  go_wp2_with fail
  clear p0 p1 p2
  refine (lroster_p e nw _ l W1 HC0.out.v hn).mono ?_
  rintro _ W2 ⟨a2, c2, rfl, ho, hy⟩
  generalize l.take 7 = L at *
  have HP := Lib.hid (box_put HC0.out HB0.out ho hy (e := e) (nw := nw))
  have HC2 := Lib.hid (HC0.out.below hy)
  clear ho hy HC0 HB0
  obtain ⟨⟨p0, p1, p2⟩, f0, f1, f2⟩ := HC2.out.c
  dsimp only at p0 p1 p2
  go_wp2_with fail
  clear p0 p1 p2 f0 f1 f2 HC2
  generalize ((W2.setCell ⟨w.heap.size, 0, none⟩ (.int .i64 e)).setCell ⟨w.heap.size, 1, none⟩ (.slice a2 L.length c2)).setCell ⟨w.heap.size, 2, none⟩ (.int .i64 nw) = V at *
  have HC := Lib.hid HP.out.1
  have HO := Lib.hid HP.out.2.1
  have HB := Lib.hid HP.out.2.2
  clear HP
  have hal := addR_len ⟨e, L, nw⟩ n
  have hbl := dropR_len ⟨e, L, nw⟩ n
  dsimp only at hal hbl
  obtain ⟨ra, hra⟩ : ∃ r, addR ⟨e, L, nw⟩ n = r := ⟨_, rfl⟩
  obtain ⟨rb, hrb⟩ : ∃ r, dropR ⟨e, L, nw⟩ n = r := ⟨_, rfl⟩
  rw [hra] at hal
  rw [hrb] at hbl
  obtain ⟨⟨ea, la, na⟩, oka⟩ := ra
  obtain ⟨⟨eb, lb, nb⟩, okb⟩ := rb
  dsimp only at hal hbl
  obtain ⟨ma, hma⟩ : ∃ m, la.length = m := ⟨_, rfl⟩
  obtain ⟨mb, hmb⟩ : ∃ m, lb.length = m := ⟨_, rfl⟩
  have HPA := Lib.hid (And.intro hra hma)
  have HPB := Lib.hid (And.intro hrb hmb)
  rw [hma] at hal
  rw [hmb] at hbl
  have HLE := Lib.hid (And.intro hal hbl)
  clear hra hrb hma hmb hal hbl
  have p0 : True := trivial
  have p1 : True := trivial
  have p2 : True := trivial
  refine (add_p e nw n _ L V HC.out.v (by omega)).mono ?_
  rw [HPA.out.1]
  rintro _ W3 ⟨aA, cA, rfl, ho, hy⟩
  dsimp only at ho ⊢
  rw [HPA.out.2] at ho ⊢
  have hb : Below V.heap.size V (W3.alloc (.cells #[.int .i64 ea, .slice aA ma cA, .int .i64 na] 24)) := hy.alloc hy.size _
  have HRA : Hid (RC (W3.alloc (.cells #[.int .i64 ea, .slice aA ma cA, .int .i64 na] 24)) W3.heap.size ea (.slice aA ma cA) na ∧ IsAt (W3.alloc (.cells #[.int .i64 ea, .slice aA ma cA, .int .i64 na] 24)) (.slice aA ma cA) la) := Lib.hid ⟨RC.new W3 ea aA ma cA na _, (ho.below ((Below.refl _ _).alloc (Nat.le_refl _) _)).at⟩
  replace HC := Lib.hid (HC.out.below hb)
  replace HB := Lib.hid (HB.out.trans (hb.mono HB.out.size))
  clear hy hb ho p0 p1 p2
  obtain ⟨⟨p0, p1, p2⟩, _⟩ := HC.out.c
  dsimp only at p0 p1 p2
  go_wp2_with fail
  generalize (W3.alloc (.cells #[.int .i64 ea, .slice aA ma cA, .int .i64 na] 24)) = V3 at *
  generalize W3.heap.size = S3 at *
  refine (raddn_p e nw n _ L V3 HC.out.v (by omega) HEP.out).mono ?_
  rw [HPA.out.1]
  rintro _ W4 ⟨aB, cB, rfl, ho, hy⟩
  dsimp only at ho ⊢
  rw [HPA.out.2] at ho ⊢
  have hb : Below V3.heap.size V3 (W4.alloc (.cells #[.int .i64 ea, .slice aB ma cB, .int .i64 na] 24)) := hy.alloc hy.size _
  have HRB : Hid (RC (W4.alloc (.cells #[.int .i64 ea, .slice aB ma cB, .int .i64 na] 24)) W4.heap.size ea (.slice aB ma cB) na ∧ IsAt (W4.alloc (.cells #[.int .i64 ea, .slice aB ma cB, .int .i64 na] 24)) (.slice aB ma cB) la) := Lib.hid ⟨RC.new W4 ea aB ma cB na _, (ho.below ((Below.refl _ _).alloc (Nat.le_refl _) _)).at⟩
  replace HRA := Lib.hid (And.intro (HRA.out.1.below hb) (HRA.out.2.below hb))
  replace HC := Lib.hid (HC.out.below hb)
  replace HB := Lib.hid (HB.out.trans (hb.mono HB.out.size))
  clear hy hb ho p0 p1 p2
  obtain ⟨⟨p0, p1, p2⟩, _⟩ := HC.out.c
  dsimp only at p0 p1 p2
  go_wp2_with fail
  generalize (W4.alloc (.cells #[.int .i64 ea, .slice aB ma cB, .int .i64 na] 24)) = V4 at *
  generalize W4.heap.size = S4 at *
  refine (drop_p e nw n _ L V4 HC.out.v (by omega)).mono ?_
  rw [HPB.out.1]
  rintro _ W5 ⟨aC, cC, rfl, ho, hy⟩
  dsimp only at ho ⊢
  rw [HPB.out.2] at ho ⊢
  have hb : Below V4.heap.size V4 (W5.alloc (.cells #[.int .i64 eb, .slice aC mb cC, .int .i64 nb] 24)) := hy.alloc hy.size _
  have HRC : Hid (RC (W5.alloc (.cells #[.int .i64 eb, .slice aC mb cC, .int .i64 nb] 24)) W5.heap.size eb (.slice aC mb cC) nb ∧ IsAt (W5.alloc (.cells #[.int .i64 eb, .slice aC mb cC, .int .i64 nb] 24)) (.slice aC mb cC) lb) := Lib.hid ⟨RC.new W5 eb aC mb cC nb _, (ho.below ((Below.refl _ _).alloc (Nat.le_refl _) _)).at⟩
  replace HRA := Lib.hid (And.intro (HRA.out.1.below hb) (HRA.out.2.below hb))
  replace HRB := Lib.hid (And.intro (HRB.out.1.below hb) (HRB.out.2.below hb))
  replace HC := Lib.hid (HC.out.below hb)
  replace HB := Lib.hid (HB.out.trans (hb.mono HB.out.size))
  clear hy hb ho p0 p1 p2
  obtain ⟨⟨p0, p1, p2⟩, _⟩ := HC.out.c
  dsimp only at p0 p1 p2
  go_wp2_with fail
  generalize (W5.alloc (.cells #[.int .i64 eb, .slice aC mb cC, .int .i64 nb] 24)) = V5 at *
  generalize W5.heap.size = S5 at *
  refine (rdropn_p e nw n _ L V5 HC.out.v (by omega)).mono ?_
  rw [HPB.out.1]
  rintro _ W6 ⟨aD, cD, rfl, ho, hy⟩
  dsimp only at ho ⊢
  rw [HPB.out.2] at ho ⊢
  have hb : Below V5.heap.size V5 (W6.alloc (.cells #[.int .i64 eb, .slice aD mb cD, .int .i64 nb] 24)) := hy.alloc hy.size _
  have HRD : Hid (RC (W6.alloc (.cells #[.int .i64 eb, .slice aD mb cD, .int .i64 nb] 24)) W6.heap.size eb (.slice aD mb cD) nb ∧ IsAt (W6.alloc (.cells #[.int .i64 eb, .slice aD mb cD, .int .i64 nb] 24)) (.slice aD mb cD) lb) := Lib.hid ⟨RC.new W6 eb aD mb cD nb _, (ho.below ((Below.refl _ _).alloc (Nat.le_refl _) _)).at⟩
  replace HRA := Lib.hid (And.intro (HRA.out.1.below hb) (HRA.out.2.below hb))
  replace HRB := Lib.hid (And.intro (HRB.out.1.below hb) (HRB.out.2.below hb))
  replace HRC := Lib.hid (And.intro (HRC.out.1.below hb) (HRC.out.2.below hb))
  replace HC := Lib.hid (HC.out.below hb)
  replace HB := Lib.hid (HB.out.trans (hb.mono HB.out.size))
  clear hy hb ho p0 p1 p2
  obtain ⟨⟨p0, p1, p2⟩, _⟩ := HC.out.c
  dsimp only at p0 p1 p2
  go_wp2_with fail
  generalize (W6.alloc (.cells #[.int .i64 eb, .slice aD mb cD, .int .i64 nb] 24)) = V6 at *
  generalize W6.heap.size = S6 at *
  have hpb : hasI L n = decide (0 ≤ ixI L n) := rfl
  obtain ⟨hb9, hhb9⟩ : ∃ b, hasI L n = b := ⟨_, rfl⟩
  obtain ⟨p9, hp9⟩ : ∃ p, ixI L n = p := ⟨_, rfl⟩
  rw [hhb9, hp9] at hpb
  obtain ⟨mr, hmr⟩ : ∃ b, mayR ⟨e, L, nw⟩ = b := ⟨_, rfl⟩
  have y1 : Hid (∀ d os, Calls Try.prog 11 #[.agg #[.int .i64 e, .slice a2 L.length c2, .int .i64 nw]] (Go.Sort.grow (redrawn V6 d) os) fun e w'' => e = .returned (.bool mr) ∧ ∃ p : Regrown, w'' = Go.Sort.grow (redrawn V6 p.d) p.os) := Lib.hid (fun d os => Calls.regrown_of (by rw [← hmr]; exact may_p e nw _ L _ (HC.out.v.below (below_regrown V6 d os)) (by omega)))
  have y2 : Hid (∀ d os, Calls Try.prog 16 #[.agg #[.int .i64 e, .slice a2 L.length c2, .int .i64 nw]] (Go.Sort.grow (redrawn V6 d) os) fun e w'' => e = .returned (.bool mr) ∧ ∃ p : Regrown, w'' = Go.Sort.grow (redrawn V6 p.d) p.os) := Lib.hid (fun d os => Calls.regrown_of (by rw [← hmr]; exact rmayr_p e nw _ L _ (HC.out.v.below (below_regrown V6 d os)) (by omega)))
  have y3 : Hid (∀ d os, Calls Try.prog 17 #[.agg #[.int .i64 e, .slice a2 L.length c2, .int .i64 nw], .int .i64 n] (Go.Sort.grow (redrawn V6 d) os) fun e w'' => e = .returned (.bool hb9) ∧ ∃ p : Regrown, w'' = Go.Sort.grow (redrawn V6 p.d) p.os) := Lib.hid (fun d os => Calls.regrown_of (by rw [← hhb9]; exact has_p e nw n _ L _ (HC.out.v.below (below_regrown V6 d os)) (by omega)))
  have y4 : Hid (∀ d os, Calls Try.prog 18 #[.agg #[.int .i64 e, .slice a2 L.length c2, .int .i64 nw], .int .i64 n] (Go.Sort.grow (redrawn V6 d) os) fun e w'' => e = .returned (.int .i64 p9) ∧ ∃ p : Regrown, w'' = Go.Sort.grow (redrawn V6 p.d) p.os) := Lib.hid (fun d os => Calls.regrown_of (by rw [← hp9]; exact spot_p e nw n _ L _ (HC.out.v.below (below_regrown V6 d os)) (by omega)))
  have hself : ∀ r : Ro, eqR r r = true := fun r => by unfold eqR; simp
  have y5 : Hid (∀ d os, Calls Try.prog 19 #[.agg #[.int .i64 ea, .slice aA ma cA, .int .i64 na], .agg #[.int .i64 ea, .slice aB ma cB, .int .i64 na]] (Go.Sort.grow (redrawn V6 d) os) fun e w'' => e = .returned (.bool true) ∧ ∃ p : Regrown, w'' = Go.Sort.grow (redrawn V6 p.d) p.os) := Lib.hid (fun d os => Calls.regrown_of (by
    have hx := HRA.out.2.below (below_regrown V6 d os)
    have hz := HRB.out.2.below (below_regrown V6 d os)
    have hlen := HPA.out.2
    rw [← hlen] at hx hz ⊢
    have := reqr_p ea na ea na _ _ la la _ hx hz (by have := HLE.out; omega) (by have := HLE.out; omega)
    rw [hself] at this
    exact this))
  have y6 : Hid (∀ d os, Calls Try.prog 19 #[.agg #[.int .i64 eb, .slice aC mb cC, .int .i64 nb], .agg #[.int .i64 eb, .slice aD mb cD, .int .i64 nb]] (Go.Sort.grow (redrawn V6 d) os) fun e w'' => e = .returned (.bool true) ∧ ∃ p : Regrown, w'' = Go.Sort.grow (redrawn V6 p.d) p.os) := Lib.hid (fun d os => Calls.regrown_of (by
    have hx := HRC.out.2.below (below_regrown V6 d os)
    have hz := HRD.out.2.below (below_regrown V6 d os)
    have hlen := HPB.out.2
    rw [← hlen] at hx hz ⊢
    have := reqr_p eb nb eb nb _ _ lb lb _ hx hz (by have := HLE.out; omega) (by have := HLE.out; omega)
    rw [hself] at this
    exact this))
  have y7 : Hid (∀ d os, Calls Try.prog 20 #[.agg #[.int .i64 e, .slice a2 L.length c2, .int .i64 nw], .agg #[.int .i64 e, .slice a2 L.length c2, .int .i64 nw]] (Go.Sort.grow (redrawn V6 d) os) fun e w'' => e = .returned (.bool true) ∧ ∃ p : Regrown, w'' = Go.Sort.grow (redrawn V6 p.d) p.os) := Lib.hid (fun d os => Calls.regrown_of (by
    have hx := HC.out.v.below (below_regrown V6 d os)
    have := eq_p e nw e nw _ _ L L _ hx hx (by omega) (by omega)
    rw [hself] at this
    exact this))
  obtain ⟨⟨sA0, sA1, sA2⟩, _⟩ := HRA.out.1
  obtain ⟨⟨sB0, sB1, sB2⟩, _⟩ := HRB.out.1
  obtain ⟨⟨sC0, sC1, sC2⟩, _⟩ := HRC.out.1
  obtain ⟨⟨sD0, sD1, sD2⟩, _⟩ := HRD.out.1
  have qr0 := cell_regrown p0
  have qr1 := cell_regrown p1
  have qr2 := cell_regrown p2
  have qA0 := cell_regrown sA0
  have qA1 := cell_regrown sA1
  have qA2 := cell_regrown sA2
  have qB0 := cell_regrown sB0
  have qB1 := cell_regrown sB1
  have qB2 := cell_regrown sB2
  have qC0 := cell_regrown sC0
  have qC1 := cell_regrown sC1
  have qC2 := cell_regrown sC2
  have qD0 := cell_regrown sD0
  have qD1 := cell_regrown sD1
  have qD2 := cell_regrown sD2
  clear p0 p1 p2 sA0 sA1 sA2 sB0 sB1 sB2 sC0 sC1 sC2 sD0 sD1 sD2 hself hhb9 hp9
  rcases hcs : decide (0 ≤ p9) with _ | _
  · skip
    rw [hcs] at hpb
    subst hpb
    refine wp_region_quiet_below (by kernel_rfl) (by kernel_rfl) ?_
    repeat (quiet_step (first | (go_at_call 11; exact y1.out _ _) | (go_at_call 16; exact y2.out _ _) | (go_at_call 17; exact y3.out _ _) | (go_at_call 18; exact y4.out _ _) | (go_at_call_of 19 (Value.slice aA ma cA); exact y5.out _ _) | (go_at_call_of 19 (Value.slice aC mb cC); exact y6.out _ _) | (go_at_call 20; exact y7.out _ _)))
    refine wpQuiet_nil ?_
    intro _ hw'
    obtain ⟨⟨dq, osq⟩, hw''⟩ := hw'
    subst hw''
    have HC7 := Lib.hid (HC.out.below (below_regrown V6 dq osq))
    have HB7 := Lib.hid (HB.out.trans ((below_regrown V6 dq osq).mono HB.out.size))
    clear qr0 qr1 qr2 qA0 qA1 qA2 qB0 qB1 qB2 qC0 qC1 qC2 qD0 qD1 qD2 y1 y2 y3 y4 y5 y6 y7 HRA HRB HRC HRD
    generalize Go.Sort.grow (redrawn V6 dq) osq = V7 at *
    obtain ⟨⟨p0, p1, p2⟩, _⟩ := HC7.out.c
    dsimp only at p0 p1 p2
    have HM := rmayr_p e nw _ L V7 HC7.out.v (by omega)
    rw [hmr] at HM
    have HM := Lib.hid HM
    cases mr with
    | false =>
      go_wp2_with fail
      refine HM.out.mono ?_
      rintro _ V8 ⟨rfl, hb⟩
      have HB8 := Lib.hid (HB7.out.trans (hb.mono HB7.out.size))
      clear hb HM
      go_wp2_with fail
      go_ret
      exact ⟨rfl, HB8.out⟩
    | true =>
      have hlen := (mayR_len hmr).2.2
      go_wp2_with fail
      refine HM.out.mono ?_
      rintro _ V8 ⟨rfl, hb⟩
      have HC8 := Lib.hid (HC7.out.below hb)
      have HB8 := Lib.hid (HB7.out.trans (hb.mono HB7.out.size))
      clear hb HM p0 p1 p2 hmr HC7 HB7
      obtain ⟨k, hk⟩ : ∃ k, L.length = k + 1 := ⟨L.length - 1, by omega⟩
      obtain ⟨x, hx⟩ : ∃ x, L[k]? = some x := ⟨_, List.getElem?_eq_getElem (by omega)⟩
      obtain ⟨y, hy⟩ : ∃ y, L[0]? = some y := ⟨_, List.getElem?_eq_getElem (by omega)⟩
      have htl := getI_last hk hx
      have hhd : getI L 0 = y := getI_at hy
      obtain ⟨g, o, rfl, x0⟩ := HC8.out.v.get hx
      obtain ⟨g', o', hge, y0⟩ := HC8.out.v.get hy
      simp only [Option.some.injEq, Addr.mk.injEq, and_true] at hge
      obtain ⟨rfl, rfl⟩ := hge
      have y0 : V8.cell? ⟨g, o, none⟩ = some (.int .i64 y) := y0
      have hwl : IntKind.i64.wrap ((L.length : Int) - 1) = (k : Int) := by
        have e : (L.length : Int) - 1 = (k : Int) := by omega
        rw [e]
        exact IntWalk.i64_in _ (by omega)
      have hkl : k < L.length := by omega
      have hklz : (k : Int) < (L.length : Int) := by omega
      have h0l : 0 < L.length := by omega
      have h0lz : (0 : Int) < (L.length : Int) := by omega
      have hsn := side_next L n
      have hsa := side_ahead L n
      obtain ⟨nx, hnx⟩ : ∃ z, nextI L n = z := ⟨_, rfl⟩
      obtain ⟨ax, hax⟩ : ∃ z, aheadI L n = z := ⟨_, rfl⟩
      rw [hnx] at hsn
      rw [hax] at hsa
      have y1 : Hid (∀ d os, Calls Try.prog 21 #[.agg #[.int .i64 e, .slice (some ⟨g, o, none⟩) L.length c2, .int .i64 nw]] (Go.Sort.grow (redrawn V8 d) os) fun e w'' => e = .returned (.int .i64 y) ∧ ∃ p : Regrown, w'' = Go.Sort.grow (redrawn V8 p.d) p.os) := Lib.hid (fun d os => Calls.regrown_of (by rw [← hhd]; exact head_p e nw _ L _ (HC8.out.v.below (below_regrown V8 d os))))
      have y2 : Hid (∀ d os, Calls Try.prog 22 #[.agg #[.int .i64 e, .slice (some ⟨g, o, none⟩) L.length c2, .int .i64 nw]] (Go.Sort.grow (redrawn V8 d) os) fun e w'' => e = .returned (.int .i64 x) ∧ ∃ p : Regrown, w'' = Go.Sort.grow (redrawn V8 p.d) p.os) := Lib.hid (fun d os => Calls.regrown_of (by rw [← htl]; exact tail_p e nw _ L _ (HC8.out.v.below (below_regrown V8 d os)) (by omega)))
      have y3 : Hid (∀ d os, Calls Try.prog 23 #[.agg #[.int .i64 e, .slice (some ⟨g, o, none⟩) L.length c2, .int .i64 nw], .int .i64 n] (Go.Sort.grow (redrawn V8 d) os) fun e w'' => e = .returned (.int .i64 nx) ∧ ∃ p : Regrown, w'' = Go.Sort.grow (redrawn V8 p.d) p.os) := Lib.hid (fun d os => Calls.regrown_of (by rw [← hnx]; exact next_p e nw n _ L _ (HC8.out.v.below (below_regrown V8 d os)) (by omega)))
      have y4 : Hid (∀ d os, Calls Try.prog 24 #[.agg #[.int .i64 e, .slice (some ⟨g, o, none⟩) L.length c2, .int .i64 nw], .int .i64 n, .int .i64 1] (Go.Sort.grow (redrawn V8 d) os) fun e w'' => e = .returned (.int .i64 nx) ∧ ∃ p : Regrown, w'' = Go.Sort.grow (redrawn V8 p.d) p.os) := Lib.hid (fun d os => Calls.regrown_of (by rw [← hsn]; exact side_p e nw n 1 _ L _ (HC8.out.v.below (below_regrown V8 d os)) (by omega) (by omega)))
      have y5 : Hid (∀ d os, Calls Try.prog 25 #[.agg #[.int .i64 e, .slice (some ⟨g, o, none⟩) L.length c2, .int .i64 nw], .int .i64 n] (Go.Sort.grow (redrawn V8 d) os) fun e w'' => e = .returned (.int .i64 ax) ∧ ∃ p : Regrown, w'' = Go.Sort.grow (redrawn V8 p.d) p.os) := Lib.hid (fun d os => Calls.regrown_of (by rw [← hax]; exact ahead_p e nw n _ L _ (HC8.out.v.below (below_regrown V8 d os)) (by omega)))
      have y6 : Hid (∀ d os, Calls Try.prog 24 #[.agg #[.int .i64 e, .slice (some ⟨g, o, none⟩) L.length c2, .int .i64 nw], .int .i64 n, .int .i64 (-1)] (Go.Sort.grow (redrawn V8 d) os) fun e w'' => e = .returned (.int .i64 ax) ∧ ∃ p : Regrown, w'' = Go.Sort.grow (redrawn V8 p.d) p.os) := Lib.hid (fun d os => Calls.regrown_of (by rw [← hsa]; exact side_p e nw n (-1) _ L _ (HC8.out.v.below (below_regrown V8 d os)) (by omega) (by omega)))
      obtain ⟨⟨p0, p1, p2⟩, _⟩ := HC8.out.c
      dsimp only at p0 p1 p2
      have qq0 := cell_regrown p0
      have qq1 := cell_regrown p1
      have qq2 := cell_regrown p2
      have rr0 := cell_regrown x0
      have rr1 := cell_regrown y0
      clear p0 p1 p2 x0 y0 hk hx hy htl hhd hsn hsa hnx hax
      go_wp2_with fail
      refine wp_region_quiet_below (by kernel_rfl) (by kernel_rfl) ?_
      repeat (quiet_step (first | (go_at_call 21; exact y1.out _ _) | (go_at_call 22; exact y2.out _ _) | (go_at_call 23; exact y3.out _ _) | (go_at_call_of 24 (Value.int IntKind.i64 1); exact y4.out _ _) | (go_at_call 25; exact y5.out _ _) | (go_at_call 24; exact y6.out _ _)))
      refine wpQuiet_nil ?_
      intro _ hw'
      obtain ⟨⟨dq, osq⟩, hw''⟩ := hw'
      subst hw''
      have hE := HB8.out.trans ((below_regrown V8 dq osq).mono HB8.out.size)
      go_wp2_with fail
      go_ret
      exact ⟨rfl, hE⟩
  · skip
    rw [hcs] at hpb
    subst hpb
    refine wp_region_quiet_below (by kernel_rfl) (by kernel_rfl) ?_
    repeat (quiet_step (first | (go_at_call 11; exact y1.out _ _) | (go_at_call 16; exact y2.out _ _) | (go_at_call 17; exact y3.out _ _) | (go_at_call 18; exact y4.out _ _) | (go_at_call_of 19 (Value.slice aA ma cA); exact y5.out _ _) | (go_at_call_of 19 (Value.slice aC mb cC); exact y6.out _ _) | (go_at_call 20; exact y7.out _ _)))
    refine wpQuiet_nil ?_
    intro _ hw'
    obtain ⟨⟨dq, osq⟩, hw''⟩ := hw'
    subst hw''
    have HC7 := Lib.hid (HC.out.below (below_regrown V6 dq osq))
    have HB7 := Lib.hid (HB.out.trans ((below_regrown V6 dq osq).mono HB.out.size))
    clear qr0 qr1 qr2 qA0 qA1 qA2 qB0 qB1 qB2 qC0 qC1 qC2 qD0 qD1 qD2 y1 y2 y3 y4 y5 y6 y7 HRA HRB HRC HRD
    generalize Go.Sort.grow (redrawn V6 dq) osq = V7 at *
    obtain ⟨⟨p0, p1, p2⟩, _⟩ := HC7.out.c
    dsimp only at p0 p1 p2
    have HM := rmayr_p e nw _ L V7 HC7.out.v (by omega)
    rw [hmr] at HM
    have HM := Lib.hid HM
    cases mr with
    | false =>
      go_wp2_with fail
      refine HM.out.mono ?_
      rintro _ V8 ⟨rfl, hb⟩
      have HB8 := Lib.hid (HB7.out.trans (hb.mono HB7.out.size))
      clear hb HM
      go_wp2_with fail
      go_ret
      exact ⟨rfl, HB8.out⟩
    | true =>
      have hlen := (mayR_len hmr).2.2
      go_wp2_with fail
      refine HM.out.mono ?_
      rintro _ V8 ⟨rfl, hb⟩
      have HC8 := Lib.hid (HC7.out.below hb)
      have HB8 := Lib.hid (HB7.out.trans (hb.mono HB7.out.size))
      clear hb HM p0 p1 p2 hmr HC7 HB7
      obtain ⟨k, hk⟩ : ∃ k, L.length = k + 1 := ⟨L.length - 1, by omega⟩
      obtain ⟨x, hx⟩ : ∃ x, L[k]? = some x := ⟨_, List.getElem?_eq_getElem (by omega)⟩
      obtain ⟨y, hy⟩ : ∃ y, L[0]? = some y := ⟨_, List.getElem?_eq_getElem (by omega)⟩
      have htl := getI_last hk hx
      have hhd : getI L 0 = y := getI_at hy
      obtain ⟨g, o, rfl, x0⟩ := HC8.out.v.get hx
      obtain ⟨g', o', hge, y0⟩ := HC8.out.v.get hy
      simp only [Option.some.injEq, Addr.mk.injEq, and_true] at hge
      obtain ⟨rfl, rfl⟩ := hge
      have y0 : V8.cell? ⟨g, o, none⟩ = some (.int .i64 y) := y0
      have hwl : IntKind.i64.wrap ((L.length : Int) - 1) = (k : Int) := by
        have e : (L.length : Int) - 1 = (k : Int) := by omega
        rw [e]
        exact IntWalk.i64_in _ (by omega)
      have hkl : k < L.length := by omega
      have hklz : (k : Int) < (L.length : Int) := by omega
      have h0l : 0 < L.length := by omega
      have h0lz : (0 : Int) < (L.length : Int) := by omega
      have hsn := side_next L n
      have hsa := side_ahead L n
      obtain ⟨nx, hnx⟩ : ∃ z, nextI L n = z := ⟨_, rfl⟩
      obtain ⟨ax, hax⟩ : ∃ z, aheadI L n = z := ⟨_, rfl⟩
      rw [hnx] at hsn
      rw [hax] at hsa
      have y1 : Hid (∀ d os, Calls Try.prog 21 #[.agg #[.int .i64 e, .slice (some ⟨g, o, none⟩) L.length c2, .int .i64 nw]] (Go.Sort.grow (redrawn V8 d) os) fun e w'' => e = .returned (.int .i64 y) ∧ ∃ p : Regrown, w'' = Go.Sort.grow (redrawn V8 p.d) p.os) := Lib.hid (fun d os => Calls.regrown_of (by rw [← hhd]; exact head_p e nw _ L _ (HC8.out.v.below (below_regrown V8 d os))))
      have y2 : Hid (∀ d os, Calls Try.prog 22 #[.agg #[.int .i64 e, .slice (some ⟨g, o, none⟩) L.length c2, .int .i64 nw]] (Go.Sort.grow (redrawn V8 d) os) fun e w'' => e = .returned (.int .i64 x) ∧ ∃ p : Regrown, w'' = Go.Sort.grow (redrawn V8 p.d) p.os) := Lib.hid (fun d os => Calls.regrown_of (by rw [← htl]; exact tail_p e nw _ L _ (HC8.out.v.below (below_regrown V8 d os)) (by omega)))
      have y3 : Hid (∀ d os, Calls Try.prog 23 #[.agg #[.int .i64 e, .slice (some ⟨g, o, none⟩) L.length c2, .int .i64 nw], .int .i64 n] (Go.Sort.grow (redrawn V8 d) os) fun e w'' => e = .returned (.int .i64 nx) ∧ ∃ p : Regrown, w'' = Go.Sort.grow (redrawn V8 p.d) p.os) := Lib.hid (fun d os => Calls.regrown_of (by rw [← hnx]; exact next_p e nw n _ L _ (HC8.out.v.below (below_regrown V8 d os)) (by omega)))
      have y4 : Hid (∀ d os, Calls Try.prog 24 #[.agg #[.int .i64 e, .slice (some ⟨g, o, none⟩) L.length c2, .int .i64 nw], .int .i64 n, .int .i64 1] (Go.Sort.grow (redrawn V8 d) os) fun e w'' => e = .returned (.int .i64 nx) ∧ ∃ p : Regrown, w'' = Go.Sort.grow (redrawn V8 p.d) p.os) := Lib.hid (fun d os => Calls.regrown_of (by rw [← hsn]; exact side_p e nw n 1 _ L _ (HC8.out.v.below (below_regrown V8 d os)) (by omega) (by omega)))
      have y5 : Hid (∀ d os, Calls Try.prog 25 #[.agg #[.int .i64 e, .slice (some ⟨g, o, none⟩) L.length c2, .int .i64 nw], .int .i64 n] (Go.Sort.grow (redrawn V8 d) os) fun e w'' => e = .returned (.int .i64 ax) ∧ ∃ p : Regrown, w'' = Go.Sort.grow (redrawn V8 p.d) p.os) := Lib.hid (fun d os => Calls.regrown_of (by rw [← hax]; exact ahead_p e nw n _ L _ (HC8.out.v.below (below_regrown V8 d os)) (by omega)))
      have y6 : Hid (∀ d os, Calls Try.prog 24 #[.agg #[.int .i64 e, .slice (some ⟨g, o, none⟩) L.length c2, .int .i64 nw], .int .i64 n, .int .i64 (-1)] (Go.Sort.grow (redrawn V8 d) os) fun e w'' => e = .returned (.int .i64 ax) ∧ ∃ p : Regrown, w'' = Go.Sort.grow (redrawn V8 p.d) p.os) := Lib.hid (fun d os => Calls.regrown_of (by rw [← hsa]; exact side_p e nw n (-1) _ L _ (HC8.out.v.below (below_regrown V8 d os)) (by omega) (by omega)))
      obtain ⟨⟨p0, p1, p2⟩, _⟩ := HC8.out.c
      dsimp only at p0 p1 p2
      have qq0 := cell_regrown p0
      have qq1 := cell_regrown p1
      have qq2 := cell_regrown p2
      have rr0 := cell_regrown x0
      have rr1 := cell_regrown y0
      clear p0 p1 p2 x0 y0 hk hx hy htl hhd hsn hsa hnx hax
      go_wp2_with fail
      refine wp_region_quiet_below (by kernel_rfl) (by kernel_rfl) ?_
      repeat (quiet_step (first | (go_at_call 21; exact y1.out _ _) | (go_at_call 22; exact y2.out _ _) | (go_at_call 23; exact y3.out _ _) | (go_at_call_of 24 (Value.int IntKind.i64 1); exact y4.out _ _) | (go_at_call 25; exact y5.out _ _) | (go_at_call 24; exact y6.out _ _)))
      refine wpQuiet_nil ?_
      intro _ hw'
      obtain ⟨⟨dq, osq⟩, hw''⟩ := hw'
      subst hw''
      have hE := HB8.out.trans ((below_regrown V8 dq osq).mono HB8.out.size)
      go_wp2_with fail
      go_ret
      exact ⟨rfl, hE⟩

theorem rosterAll_walk (e nw : Int) (v : Value) (l : List Int) (n : Int) (w : World) (h : IsAt w v l) (hn : l.length ≤ 9223372036854775807) (he : -9223372036854775808 ≤ e ∧ e ≤ 9223372036854775807) :
    Calls Try.prog 3 #[.agg #[.int .i64 e, v, .int .i64 nw], .int .i64 n] w fun r w' => r = .returned (.bool true) ∧ Below w.heap.size w w' := by
  by_cases hbig : e = 9223372036854775807
  · exact rosterAll_big e nw v l n w h hn hbig
  · exact rosterAll_rest e nw v l n w h hn (Lib.hid (by omega))

end Go.Proofs.Ytlemkpcpeamojaa
