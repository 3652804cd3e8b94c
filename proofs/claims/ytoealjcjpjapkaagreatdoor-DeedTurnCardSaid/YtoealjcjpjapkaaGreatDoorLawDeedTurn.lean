/-
 Contracts of the program, and what they rest on.
-/
import Derived.Lib.QuietBelow
import Derived.Test.YtoealjcjpjapkaaGreatDoorRA
import Derived.Test.YtoealjcjpjapkaaGreatDoorLdA
import Derived.Test.YtoealjcjpjapkaaGreatDoorRefP
import Derived.Test.YtoealjcjpjapkaaGreatDoorLd5
set_option maxRecDepth 100000
set_option maxHeartbeats 16000000
namespace Go.Proofs.YtoealjcjpjapkaaGreatDoor
open Go.RowKit
theorem deedTurn_walk (d : De) (which x : Int) (w : World) (hbg : Begun5True) (h : LibAt w) (hwf : d.wf) (hx : -9223372036854775808 ≤ x ∧ x ≤ 9223372036854775807) :
  Calls Tryz.prog 5 #[dagg d, .int .i64 which, .int .i64 x] w fun e w' => e = .returned (.bool true) ∧ Below w.heap.size w w' := by
 have hb0 : ∀ t, Below w.heap.size w (w.alloc (.cells #[.int .i64 d.kind, .string d.key, .string d.body, .int .i64 d.ver, .int .i64 d.cond, .string d.tag, .int .i64 d.req, .int .i64 d.low] t)) := fun t => (Below.refl _ _).alloc (Nat.le_refl _) _
 have HB0 := Lib.hid (hb0 23)
 have HD0 := Lib.hid (And.intro (DeC.new w d 23) (DeW.new w d 23))
 have HB := Lib.hid (hbg _ (h.below HB0.out))
 have HL := Lib.hid h
 have HC := Lib.hid (ldeed_p d)
 have hwf' := cutD_wf hwf
 have hbd := cutD_bd d
 obtain ⟨kind, key, body, ver, cond, tag, req, low⟩ := d
 generalize cutD ⟨kind, key, body, ver, cond, tag, req, low⟩ = c at *
 obtain ⟨kind', key', body', ver', cond', tag', req', low'⟩ := c
 have HF := Lib.hid (And.intro hwf' (And.intro hbd hx))
 obtain ⟨r, hr⟩ : ∃ r, (which.tmod 7 + 7).tmod 7 = r := ⟨_, rfl⟩
 have hr0 : 0 ≤ r ∧ r < 7 := by
  rw [← hr]
  have h1 := Int.tmod_lt_of_pos which (show (0 : Int) < 7 by decide)
  have h2 := Int.lt_tmod_of_pos which (show (0 : Int) < 7 by decide)
  exact ⟨Int.tmod_nonneg 7 (by omega), Int.tmod_lt_of_pos _ (by decide)⟩
 have hw1 : IntKind.i64.wrap (which.tmod 7 + 7) = which.tmod 7 + 7 := by
  have h1 := Int.tmod_lt_of_pos which (show (0 : Int) < 7 by decide)
  have h2 := Int.lt_tmod_of_pos which (show (0 : Int) < 7 by decide)
  exact IntWalk.i64_in _ (by omega)
 clear hbg h hwf hx hb0 hwf' hbd
 unfold dagg at *
 dsimp only at *
 go_enter Tryz.func5, Tryz.ntmps5
 go_wp2_with fail
 refine HB.out.mono ?_
 rintro _ w0 ⟨rfl, hb1⟩
 have HB1 := Lib.hid (HB0.out.trans (hb1.mono HB0.out.size))
 obtain ⟨d0, d1, d2, d3, d4, d5, d6, d7⟩ := HD0.out.1.below hb1
 have hwl : w.heap.size < (w.alloc (.cells #[.int .i64 kind, .string key, .string body, .int .i64 ver, .int .i64 cond, .string tag, .int .i64 req, .int .i64 low] 23)).heap.size := by simp
 obtain ⟨f0, f1, f2, f3, f4, f5, f6, f7⟩ := HD0.out.2.below hwl hb1
 dsimp only at d0 d1 d2 d3 d4 d5 d6 d7
 clear hb1
 go_wp2_with fail
 refine (HC.out _).mono ?_
 rintro _ w1 ⟨rfl, hb2⟩
 have hB0 := HB1.out
 have hwl0 : w.heap.size < w0.heap.size := World.block_lt_of_cell? w0 _ d0
 have hc0 : DeC w0 w.heap.size ⟨kind, key, body, ver, cond, tag, req, low⟩ := ⟨d0, d1, d2, d3, d4, d5, d6, d7⟩
 have hf0 : DeW w0 w.heap.size := ⟨f0, f1, f2, f3, f4, f5, f6, f7⟩
 have hc1 := hc0.below hb2
 have hf1 := hf0.below hwl0 hb2
 have HB2 := Lib.hid (hB0.trans (hb2.mono hB0.size))
 have HW := Lib.hid (And.intro (putD_de hc1 hf1 ⟨kind', key', body', ver', cond', tag', req', low'⟩) (And.intro (putD_w hf1 ⟨kind', key', body', ver', cond', tag', req', low'⟩) (putD_below HB2.out (Nat.le_refl _) ⟨kind', key', body', ver', cond', tag', req', low'⟩)))
 clear d0 d1 d2 d3 d4 d5 d6 d7 f0 f1 f2 f3 f4 f5 f6 f7 hb2 hB0 hwl hwl0 hc0 hf0 HD0 HB0 HB1
 obtain ⟨d0, d1, d2, d3, d4, d5, d6, d7⟩ := hc1
 obtain ⟨f0, f1, f2, f3, f4, f5, f6, f7⟩ := hf1
 dsimp only at d0 d1 d2 d3 d4 d5 d6 d7 HW
 have hr7 : r = 0 ∨ r = 1 ∨ r = 2 ∨ r = 3 ∨ r = 4 ∨ r = 5 ∨ r = 6 := by omega
 clear hr0
 rcases hr7 with rfl | rfl | rfl | rfl | rfl | rfl | rfl
 ·go_wp2_with fail
  have hBk : Below w.heap.size w (((((((((w1.setCell ⟨w.heap.size, 0, none⟩ (.int .i64 kind')).setCell ⟨w.heap.size, 1, none⟩ (.string key')).setCell ⟨w.heap.size, 2, none⟩ (.string body')).setCell ⟨w.heap.size, 3, none⟩ (.int .i64 ver')).setCell ⟨w.heap.size, 4, none⟩ (.int .i64 cond')).setCell ⟨w.heap.size, 5, none⟩ (.string tag')).setCell ⟨w.heap.size, 6, none⟩ (.int .i64 req')).setCell ⟨w.heap.size, 7, none⟩ (.int .i64 low')).setCell ⟨w.heap.size, 0, none⟩ (.int .i64 x)) := HW.out.2.2.setCell (p := ⟨w.heap.size, 0, none⟩) (Nat.le_refl _) _
  have hD : DeC (((((((((w1.setCell ⟨w.heap.size, 0, none⟩ (.int .i64 kind')).setCell ⟨w.heap.size, 1, none⟩ (.string key')).setCell ⟨w.heap.size, 2, none⟩ (.string body')).setCell ⟨w.heap.size, 3, none⟩ (.int .i64 ver')).setCell ⟨w.heap.size, 4, none⟩ (.int .i64 cond')).setCell ⟨w.heap.size, 5, none⟩ (.string tag')).setCell ⟨w.heap.size, 6, none⟩ (.int .i64 req')).setCell ⟨w.heap.size, 7, none⟩ (.int .i64 low')).setCell ⟨w.heap.size, 0, none⟩ (.int .i64 x)) w.heap.size ⟨x, key', body', ver', cond', tag', req', low'⟩ := by
   obtain ⟨t0, t1, t2, t3, t4, t5, t6, t7⟩ := HW.out.1
   obtain ⟨u0, u1, u2, u3, u4, u5, u6, u7⟩ := HW.out.2.1
   dsimp only at t0 t1 t2 t3 t4 t5 t6 t7
   refine ⟨?_, ?_, ?_, ?_, ?_, ?_, ?_, ?_⟩ <;> dsimp only <;> go_simp
  clear d0 d1 d2 d3 d4 d5 d6 d7 f0 f1 f2 f3 f4 f5 f6 f7 hr hw1 HW HB2 HC
  generalize ((((((((w1.setCell ⟨w.heap.size, 0, none⟩ (.int .i64 kind')).setCell ⟨w.heap.size, 1, none⟩ (.string key')).setCell ⟨w.heap.size, 2, none⟩ (.string body')).setCell ⟨w.heap.size, 3, none⟩ (.int .i64 ver')).setCell ⟨w.heap.size, 4, none⟩ (.int .i64 cond')).setCell ⟨w.heap.size, 5, none⟩ (.string tag')).setCell ⟨w.heap.size, 6, none⟩ (.int .i64 req')).setCell ⟨w.heap.size, 7, none⟩ (.int .i64 low')).setCell ⟨w.heap.size, 0, none⟩ (.int .i64 x) = V at *
  obtain ⟨bb, hbb, hh⟩ := both_may ⟨x, key', body', ver', cond', tag', req', low'⟩
  obtain ⟨tt, -, ht, -, hM, hR, hP⟩ := hh (by have := HF.out.2.1; dsimp only at this ⊢; omega) ⟨HF.out.2.2, HF.out.1.2.1, HF.out.1.2.2.1, HF.out.1.2.2.2.1, HF.out.1.2.2.2.2⟩ (by have := HF.out.2.1; dsimp only at this ⊢; omega) (by have := HF.out.2.1; dsimp only at this ⊢; omega)
  simp only [dagg] at hM hR hP
  have HLV := Lib.hid (HL.out.below hBk)
  have yM : Hid (∀ d os, Calls Tryz.prog 18 #[.agg #[.int .i64 x, .string key', .string body', .int .i64 ver', .int .i64 cond', .string tag', .int .i64 req', .int .i64 low']] (Go.Sort.grow (redrawn V d) os) fun e w'' => e = .returned (.bool bb) ∧ ∃ p : Regrown, w'' = Go.Sort.grow (redrawn V p.d) p.os) := Lib.hid (fun d os => Calls.regrown_of (hM _ (HLV.out.below (below_regrown V d os))))
  have yR : Hid (∀ d os, Calls Tryz.prog 19 #[.agg #[.int .i64 x, .string key', .string body', .int .i64 ver', .int .i64 cond', .string tag', .int .i64 req', .int .i64 low']] (Go.Sort.grow (redrawn V d) os) fun e w'' => e = .returned (.bool bb) ∧ ∃ p : Regrown, w'' = Go.Sort.grow (redrawn V p.d) p.os) := Lib.hid (fun d os => Calls.regrown_of (hR _))
  have yP : Hid (∀ d os, Calls Tryz.prog 22 #[.agg #[.int .i64 x, .string key', .string body', .int .i64 ver', .int .i64 cond', .string tag', .int .i64 req', .int .i64 low']] (Go.Sort.grow (redrawn V d) os) fun e w'' => e = .returned (.string tt) ∧ ∃ p : Regrown, w'' = Go.Sort.grow (redrawn V p.d) p.os) := Lib.hid (fun d os => Calls.regrown_of (hP _ (HLV.out.below (below_regrown V d os))))
  obtain ⟨d0, d1, d2, d3, d4, d5, d6, d7⟩ := hD
  dsimp only at d0 d1 d2 d3 d4 d5 d6 d7
  have q0 := cell_regrown d0
  have q1 := cell_regrown d1
  have q2 := cell_regrown d2
  have q3 := cell_regrown d3
  have q4 := cell_regrown d4
  have q5 := cell_regrown d5
  have q6 := cell_regrown d6
  have q7 := cell_regrown d7
  have HBK := Lib.hid hBk
  clear hM hR hP hh hbb d0 d1 d2 d3 d4 d5 d6 d7 hBk
  cases bb with
  | false =>
   obtain rfl := ba_size0 (ht.2 rfl)
   clear ht
   refine wp_region_quiet_below (by kernel_rfl) (by kernel_rfl) ?_
   repeat (quiet_step (first | (go_at_call 18; exact yM.out _ _) | (go_at_call 19; exact yR.out _ _) | (go_at_call 22; exact yP.out _ _)))
   refine wpQuiet_nil ?_
   intro _ hw'
   obtain ⟨⟨dq, osq⟩, hw''⟩ := hw'
   subst hw''
   have HE := Lib.hid (HBK.out.trans ((below_regrown V dq osq).mono HBK.out.size))
   clear q0 q1 q2 q3 q4 q5 q6 q7 yM yR yP
   generalize Go.Sort.grow (redrawn V dq) osq = W3 at *
   go_wp2_with fail
   go_ret
   exact ⟨rfl, HE.out⟩
  | true =>
   have htn := isEmpty_ne (fun e => by cases ht.1 e : ¬ tt.size = 0)
   clear ht
   refine wp_region_quiet_below (by kernel_rfl) (by kernel_rfl) ?_
   repeat (quiet_step (first | (go_at_call 18; exact yM.out _ _) | (go_at_call 19; exact yR.out _ _) | (go_at_call 22; exact yP.out _ _)))
   refine wpQuiet_nil ?_
   intro _ hw'
   obtain ⟨⟨dq, osq⟩, hw''⟩ := hw'
   subst hw''
   have HE := Lib.hid (HBK.out.trans ((below_regrown V dq osq).mono HBK.out.size))
   clear q0 q1 q2 q3 q4 q5 q6 q7 yM yR yP
   generalize Go.Sort.grow (redrawn V dq) osq = W3 at *
   go_wp2_with fail
   go_ret
   exact ⟨rfl, HE.out⟩
 ·go_wp2_with fail
  have hBk : Below w.heap.size w (((((((((w1.setCell ⟨w.heap.size, 0, none⟩ (.int .i64 kind')).setCell ⟨w.heap.size, 1, none⟩ (.string key')).setCell ⟨w.heap.size, 2, none⟩ (.string body')).setCell ⟨w.heap.size, 3, none⟩ (.int .i64 ver')).setCell ⟨w.heap.size, 4, none⟩ (.int .i64 cond')).setCell ⟨w.heap.size, 5, none⟩ (.string tag')).setCell ⟨w.heap.size, 6, none⟩ (.int .i64 req')).setCell ⟨w.heap.size, 7, none⟩ (.int .i64 low')).setCell ⟨w.heap.size, 3, none⟩ (.int .i64 x)) := HW.out.2.2.setCell (p := ⟨w.heap.size, 3, none⟩) (Nat.le_refl _) _
  have hD : DeC (((((((((w1.setCell ⟨w.heap.size, 0, none⟩ (.int .i64 kind')).setCell ⟨w.heap.size, 1, none⟩ (.string key')).setCell ⟨w.heap.size, 2, none⟩ (.string body')).setCell ⟨w.heap.size, 3, none⟩ (.int .i64 ver')).setCell ⟨w.heap.size, 4, none⟩ (.int .i64 cond')).setCell ⟨w.heap.size, 5, none⟩ (.string tag')).setCell ⟨w.heap.size, 6, none⟩ (.int .i64 req')).setCell ⟨w.heap.size, 7, none⟩ (.int .i64 low')).setCell ⟨w.heap.size, 3, none⟩ (.int .i64 x)) w.heap.size ⟨kind', key', body', x, cond', tag', req', low'⟩ := by
   obtain ⟨t0, t1, t2, t3, t4, t5, t6, t7⟩ := HW.out.1
   obtain ⟨u0, u1, u2, u3, u4, u5, u6, u7⟩ := HW.out.2.1
   dsimp only at t0 t1 t2 t3 t4 t5 t6 t7
   refine ⟨?_, ?_, ?_, ?_, ?_, ?_, ?_, ?_⟩ <;> dsimp only <;> go_simp
  clear d0 d1 d2 d3 d4 d5 d6 d7 f0 f1 f2 f3 f4 f5 f6 f7 hr hw1 HW HB2 HC
  generalize ((((((((w1.setCell ⟨w.heap.size, 0, none⟩ (.int .i64 kind')).setCell ⟨w.heap.size, 1, none⟩ (.string key')).setCell ⟨w.heap.size, 2, none⟩ (.string body')).setCell ⟨w.heap.size, 3, none⟩ (.int .i64 ver')).setCell ⟨w.heap.size, 4, none⟩ (.int .i64 cond')).setCell ⟨w.heap.size, 5, none⟩ (.string tag')).setCell ⟨w.heap.size, 6, none⟩ (.int .i64 req')).setCell ⟨w.heap.size, 7, none⟩ (.int .i64 low')).setCell ⟨w.heap.size, 3, none⟩ (.int .i64 x) = V at *
  obtain ⟨bb, hbb, hh⟩ := both_may ⟨kind', key', body', x, cond', tag', req', low'⟩
  obtain ⟨tt, -, ht, -, hM, hR, hP⟩ := hh (by have := HF.out.2.1; dsimp only at this ⊢; omega) ⟨HF.out.1.1, HF.out.2.2, HF.out.1.2.2.1, HF.out.1.2.2.2.1, HF.out.1.2.2.2.2⟩ (by have := HF.out.2.1; dsimp only at this ⊢; omega) (by have := HF.out.2.1; dsimp only at this ⊢; omega)
  simp only [dagg] at hM hR hP
  have HLV := Lib.hid (HL.out.below hBk)
  have yM : Hid (∀ d os, Calls Tryz.prog 18 #[.agg #[.int .i64 kind', .string key', .string body', .int .i64 x, .int .i64 cond', .string tag', .int .i64 req', .int .i64 low']] (Go.Sort.grow (redrawn V d) os) fun e w'' => e = .returned (.bool bb) ∧ ∃ p : Regrown, w'' = Go.Sort.grow (redrawn V p.d) p.os) := Lib.hid (fun d os => Calls.regrown_of (hM _ (HLV.out.below (below_regrown V d os))))
  have yR : Hid (∀ d os, Calls Tryz.prog 19 #[.agg #[.int .i64 kind', .string key', .string body', .int .i64 x, .int .i64 cond', .string tag', .int .i64 req', .int .i64 low']] (Go.Sort.grow (redrawn V d) os) fun e w'' => e = .returned (.bool bb) ∧ ∃ p : Regrown, w'' = Go.Sort.grow (redrawn V p.d) p.os) := Lib.hid (fun d os => Calls.regrown_of (hR _))
  have yP : Hid (∀ d os, Calls Tryz.prog 22 #[.agg #[.int .i64 kind', .string key', .string body', .int .i64 x, .int .i64 cond', .string tag', .int .i64 req', .int .i64 low']] (Go.Sort.grow (redrawn V d) os) fun e w'' => e = .returned (.string tt) ∧ ∃ p : Regrown, w'' = Go.Sort.grow (redrawn V p.d) p.os) := Lib.hid (fun d os => Calls.regrown_of (hP _ (HLV.out.below (below_regrown V d os))))
  obtain ⟨d0, d1, d2, d3, d4, d5, d6, d7⟩ := hD
  dsimp only at d0 d1 d2 d3 d4 d5 d6 d7
  have q0 := cell_regrown d0
  have q1 := cell_regrown d1
  have q2 := cell_regrown d2
  have q3 := cell_regrown d3
  have q4 := cell_regrown d4
  have q5 := cell_regrown d5
  have q6 := cell_regrown d6
  have q7 := cell_regrown d7
  have HBK := Lib.hid hBk
  clear hM hR hP hh hbb d0 d1 d2 d3 d4 d5 d6 d7 hBk
  cases bb with
  | false =>
   obtain rfl := ba_size0 (ht.2 rfl)
   clear ht
   refine wp_region_quiet_below (by kernel_rfl) (by kernel_rfl) ?_
   repeat (quiet_step (first | (go_at_call 18; exact yM.out _ _) | (go_at_call 19; exact yR.out _ _) | (go_at_call 22; exact yP.out _ _)))
   refine wpQuiet_nil ?_
   intro _ hw'
   obtain ⟨⟨dq, osq⟩, hw''⟩ := hw'
   subst hw''
   have HE := Lib.hid (HBK.out.trans ((below_regrown V dq osq).mono HBK.out.size))
   clear q0 q1 q2 q3 q4 q5 q6 q7 yM yR yP
   generalize Go.Sort.grow (redrawn V dq) osq = W3 at *
   go_wp2_with fail
   go_ret
   exact ⟨rfl, HE.out⟩
  | true =>
   have htn := isEmpty_ne (fun e => by cases ht.1 e : ¬ tt.size = 0)
   clear ht
   refine wp_region_quiet_below (by kernel_rfl) (by kernel_rfl) ?_
   repeat (quiet_step (first | (go_at_call 18; exact yM.out _ _) | (go_at_call 19; exact yR.out _ _) | (go_at_call 22; exact yP.out _ _)))
   refine wpQuiet_nil ?_
   intro _ hw'
   obtain ⟨⟨dq, osq⟩, hw''⟩ := hw'
   subst hw''
   have HE := Lib.hid (HBK.out.trans ((below_regrown V dq osq).mono HBK.out.size))
   clear q0 q1 q2 q3 q4 q5 q6 q7 yM yR yP
   generalize Go.Sort.grow (redrawn V dq) osq = W3 at *
   go_wp2_with fail
   go_ret
   exact ⟨rfl, HE.out⟩
 ·go_wp2_with fail
  have hBk : Below w.heap.size w (((((((((w1.setCell ⟨w.heap.size, 0, none⟩ (.int .i64 kind')).setCell ⟨w.heap.size, 1, none⟩ (.string key')).setCell ⟨w.heap.size, 2, none⟩ (.string body')).setCell ⟨w.heap.size, 3, none⟩ (.int .i64 ver')).setCell ⟨w.heap.size, 4, none⟩ (.int .i64 cond')).setCell ⟨w.heap.size, 5, none⟩ (.string tag')).setCell ⟨w.heap.size, 6, none⟩ (.int .i64 req')).setCell ⟨w.heap.size, 7, none⟩ (.int .i64 low')).setCell ⟨w.heap.size, 4, none⟩ (.int .i64 x)) := HW.out.2.2.setCell (p := ⟨w.heap.size, 4, none⟩) (Nat.le_refl _) _
  have hD : DeC (((((((((w1.setCell ⟨w.heap.size, 0, none⟩ (.int .i64 kind')).setCell ⟨w.heap.size, 1, none⟩ (.string key')).setCell ⟨w.heap.size, 2, none⟩ (.string body')).setCell ⟨w.heap.size, 3, none⟩ (.int .i64 ver')).setCell ⟨w.heap.size, 4, none⟩ (.int .i64 cond')).setCell ⟨w.heap.size, 5, none⟩ (.string tag')).setCell ⟨w.heap.size, 6, none⟩ (.int .i64 req')).setCell ⟨w.heap.size, 7, none⟩ (.int .i64 low')).setCell ⟨w.heap.size, 4, none⟩ (.int .i64 x)) w.heap.size ⟨kind', key', body', ver', x, tag', req', low'⟩ := by
   obtain ⟨t0, t1, t2, t3, t4, t5, t6, t7⟩ := HW.out.1
   obtain ⟨u0, u1, u2, u3, u4, u5, u6, u7⟩ := HW.out.2.1
   dsimp only at t0 t1 t2 t3 t4 t5 t6 t7
   refine ⟨?_, ?_, ?_, ?_, ?_, ?_, ?_, ?_⟩ <;> dsimp only <;> go_simp
  clear d0 d1 d2 d3 d4 d5 d6 d7 f0 f1 f2 f3 f4 f5 f6 f7 hr hw1 HW HB2 HC
  generalize ((((((((w1.setCell ⟨w.heap.size, 0, none⟩ (.int .i64 kind')).setCell ⟨w.heap.size, 1, none⟩ (.string key')).setCell ⟨w.heap.size, 2, none⟩ (.string body')).setCell ⟨w.heap.size, 3, none⟩ (.int .i64 ver')).setCell ⟨w.heap.size, 4, none⟩ (.int .i64 cond')).setCell ⟨w.heap.size, 5, none⟩ (.string tag')).setCell ⟨w.heap.size, 6, none⟩ (.int .i64 req')).setCell ⟨w.heap.size, 7, none⟩ (.int .i64 low')).setCell ⟨w.heap.size, 4, none⟩ (.int .i64 x) = V at *
  obtain ⟨bb, hbb, hh⟩ := both_may ⟨kind', key', body', ver', x, tag', req', low'⟩
  obtain ⟨tt, -, ht, -, hM, hR, hP⟩ := hh (by have := HF.out.2.1; dsimp only at this ⊢; omega) ⟨HF.out.1.1, HF.out.1.2.1, HF.out.2.2, HF.out.1.2.2.2.1, HF.out.1.2.2.2.2⟩ (by have := HF.out.2.1; dsimp only at this ⊢; omega) (by have := HF.out.2.1; dsimp only at this ⊢; omega)
  simp only [dagg] at hM hR hP
  have HLV := Lib.hid (HL.out.below hBk)
  have yM : Hid (∀ d os, Calls Tryz.prog 18 #[.agg #[.int .i64 kind', .string key', .string body', .int .i64 ver', .int .i64 x, .string tag', .int .i64 req', .int .i64 low']] (Go.Sort.grow (redrawn V d) os) fun e w'' => e = .returned (.bool bb) ∧ ∃ p : Regrown, w'' = Go.Sort.grow (redrawn V p.d) p.os) := Lib.hid (fun d os => Calls.regrown_of (hM _ (HLV.out.below (below_regrown V d os))))
  have yR : Hid (∀ d os, Calls Tryz.prog 19 #[.agg #[.int .i64 kind', .string key', .string body', .int .i64 ver', .int .i64 x, .string tag', .int .i64 req', .int .i64 low']] (Go.Sort.grow (redrawn V d) os) fun e w'' => e = .returned (.bool bb) ∧ ∃ p : Regrown, w'' = Go.Sort.grow (redrawn V p.d) p.os) := Lib.hid (fun d os => Calls.regrown_of (hR _))
  have yP : Hid (∀ d os, Calls Tryz.prog 22 #[.agg #[.int .i64 kind', .string key', .string body', .int .i64 ver', .int .i64 x, .string tag', .int .i64 req', .int .i64 low']] (Go.Sort.grow (redrawn V d) os) fun e w'' => e = .returned (.string tt) ∧ ∃ p : Regrown, w'' = Go.Sort.grow (redrawn V p.d) p.os) := Lib.hid (fun d os => Calls.regrown_of (hP _ (HLV.out.below (below_regrown V d os))))
  obtain ⟨d0, d1, d2, d3, d4, d5, d6, d7⟩ := hD
  dsimp only at d0 d1 d2 d3 d4 d5 d6 d7
  have q0 := cell_regrown d0
  have q1 := cell_regrown d1
  have q2 := cell_regrown d2
  have q3 := cell_regrown d3
  have q4 := cell_regrown d4
  have q5 := cell_regrown d5
  have q6 := cell_regrown d6
  have q7 := cell_regrown d7
  have HBK := Lib.hid hBk
  clear hM hR hP hh hbb d0 d1 d2 d3 d4 d5 d6 d7 hBk
  cases bb with
  | false =>
   obtain rfl := ba_size0 (ht.2 rfl)
   clear ht
   refine wp_region_quiet_below (by kernel_rfl) (by kernel_rfl) ?_
   repeat (quiet_step (first | (go_at_call 18; exact yM.out _ _) | (go_at_call 19; exact yR.out _ _) | (go_at_call 22; exact yP.out _ _)))
   refine wpQuiet_nil ?_
   intro _ hw'
   obtain ⟨⟨dq, osq⟩, hw''⟩ := hw'
   subst hw''
   have HE := Lib.hid (HBK.out.trans ((below_regrown V dq osq).mono HBK.out.size))
   clear q0 q1 q2 q3 q4 q5 q6 q7 yM yR yP
   generalize Go.Sort.grow (redrawn V dq) osq = W3 at *
   go_wp2_with fail
   go_ret
   exact ⟨rfl, HE.out⟩
  | true =>
   have htn := isEmpty_ne (fun e => by cases ht.1 e : ¬ tt.size = 0)
   clear ht
   refine wp_region_quiet_below (by kernel_rfl) (by kernel_rfl) ?_
   repeat (quiet_step (first | (go_at_call 18; exact yM.out _ _) | (go_at_call 19; exact yR.out _ _) | (go_at_call 22; exact yP.out _ _)))
   refine wpQuiet_nil ?_
   intro _ hw'
   obtain ⟨⟨dq, osq⟩, hw''⟩ := hw'
   subst hw''
   have HE := Lib.hid (HBK.out.trans ((below_regrown V dq osq).mono HBK.out.size))
   clear q0 q1 q2 q3 q4 q5 q6 q7 yM yR yP
   generalize Go.Sort.grow (redrawn V dq) osq = W3 at *
   go_wp2_with fail
   go_ret
   exact ⟨rfl, HE.out⟩
 ·go_wp2_with fail
  have hBk : Below w.heap.size w (((((((((w1.setCell ⟨w.heap.size, 0, none⟩ (.int .i64 kind')).setCell ⟨w.heap.size, 1, none⟩ (.string key')).setCell ⟨w.heap.size, 2, none⟩ (.string body')).setCell ⟨w.heap.size, 3, none⟩ (.int .i64 ver')).setCell ⟨w.heap.size, 4, none⟩ (.int .i64 cond')).setCell ⟨w.heap.size, 5, none⟩ (.string tag')).setCell ⟨w.heap.size, 6, none⟩ (.int .i64 req')).setCell ⟨w.heap.size, 7, none⟩ (.int .i64 low')).setCell ⟨w.heap.size, 6, none⟩ (.int .i64 x)) := HW.out.2.2.setCell (p := ⟨w.heap.size, 6, none⟩) (Nat.le_refl _) _
  have hD : DeC (((((((((w1.setCell ⟨w.heap.size, 0, none⟩ (.int .i64 kind')).setCell ⟨w.heap.size, 1, none⟩ (.string key')).setCell ⟨w.heap.size, 2, none⟩ (.string body')).setCell ⟨w.heap.size, 3, none⟩ (.int .i64 ver')).setCell ⟨w.heap.size, 4, none⟩ (.int .i64 cond')).setCell ⟨w.heap.size, 5, none⟩ (.string tag')).setCell ⟨w.heap.size, 6, none⟩ (.int .i64 req')).setCell ⟨w.heap.size, 7, none⟩ (.int .i64 low')).setCell ⟨w.heap.size, 6, none⟩ (.int .i64 x)) w.heap.size ⟨kind', key', body', ver', cond', tag', x, low'⟩ := by
   obtain ⟨t0, t1, t2, t3, t4, t5, t6, t7⟩ := HW.out.1
   obtain ⟨u0, u1, u2, u3, u4, u5, u6, u7⟩ := HW.out.2.1
   dsimp only at t0 t1 t2 t3 t4 t5 t6 t7
   refine ⟨?_, ?_, ?_, ?_, ?_, ?_, ?_, ?_⟩ <;> dsimp only <;> go_simp
  clear d0 d1 d2 d3 d4 d5 d6 d7 f0 f1 f2 f3 f4 f5 f6 f7 hr hw1 HW HB2 HC
  generalize ((((((((w1.setCell ⟨w.heap.size, 0, none⟩ (.int .i64 kind')).setCell ⟨w.heap.size, 1, none⟩ (.string key')).setCell ⟨w.heap.size, 2, none⟩ (.string body')).setCell ⟨w.heap.size, 3, none⟩ (.int .i64 ver')).setCell ⟨w.heap.size, 4, none⟩ (.int .i64 cond')).setCell ⟨w.heap.size, 5, none⟩ (.string tag')).setCell ⟨w.heap.size, 6, none⟩ (.int .i64 req')).setCell ⟨w.heap.size, 7, none⟩ (.int .i64 low')).setCell ⟨w.heap.size, 6, none⟩ (.int .i64 x) = V at *
  obtain ⟨bb, hbb, hh⟩ := both_may ⟨kind', key', body', ver', cond', tag', x, low'⟩
  obtain ⟨tt, -, ht, -, hM, hR, hP⟩ := hh (by have := HF.out.2.1; dsimp only at this ⊢; omega) ⟨HF.out.1.1, HF.out.1.2.1, HF.out.1.2.2.1, HF.out.2.2, HF.out.1.2.2.2.2⟩ (by have := HF.out.2.1; dsimp only at this ⊢; omega) (by have := HF.out.2.1; dsimp only at this ⊢; omega)
  simp only [dagg] at hM hR hP
  have HLV := Lib.hid (HL.out.below hBk)
  have yM : Hid (∀ d os, Calls Tryz.prog 18 #[.agg #[.int .i64 kind', .string key', .string body', .int .i64 ver', .int .i64 cond', .string tag', .int .i64 x, .int .i64 low']] (Go.Sort.grow (redrawn V d) os) fun e w'' => e = .returned (.bool bb) ∧ ∃ p : Regrown, w'' = Go.Sort.grow (redrawn V p.d) p.os) := Lib.hid (fun d os => Calls.regrown_of (hM _ (HLV.out.below (below_regrown V d os))))
  have yR : Hid (∀ d os, Calls Tryz.prog 19 #[.agg #[.int .i64 kind', .string key', .string body', .int .i64 ver', .int .i64 cond', .string tag', .int .i64 x, .int .i64 low']] (Go.Sort.grow (redrawn V d) os) fun e w'' => e = .returned (.bool bb) ∧ ∃ p : Regrown, w'' = Go.Sort.grow (redrawn V p.d) p.os) := Lib.hid (fun d os => Calls.regrown_of (hR _))
  have yP : Hid (∀ d os, Calls Tryz.prog 22 #[.agg #[.int .i64 kind', .string key', .string body', .int .i64 ver', .int .i64 cond', .string tag', .int .i64 x, .int .i64 low']] (Go.Sort.grow (redrawn V d) os) fun e w'' => e = .returned (.string tt) ∧ ∃ p : Regrown, w'' = Go.Sort.grow (redrawn V p.d) p.os) := Lib.hid (fun d os => Calls.regrown_of (hP _ (HLV.out.below (below_regrown V d os))))
  obtain ⟨d0, d1, d2, d3, d4, d5, d6, d7⟩ := hD
  dsimp only at d0 d1 d2 d3 d4 d5 d6 d7
  have q0 := cell_regrown d0
  have q1 := cell_regrown d1
  have q2 := cell_regrown d2
  have q3 := cell_regrown d3
  have q4 := cell_regrown d4
  have q5 := cell_regrown d5
  have q6 := cell_regrown d6
  have q7 := cell_regrown d7
  have HBK := Lib.hid hBk
  clear hM hR hP hh hbb d0 d1 d2 d3 d4 d5 d6 d7 hBk
  cases bb with
  | false =>
   obtain rfl := ba_size0 (ht.2 rfl)
   clear ht
   refine wp_region_quiet_below (by kernel_rfl) (by kernel_rfl) ?_
   repeat (quiet_step (first | (go_at_call 18; exact yM.out _ _) | (go_at_call 19; exact yR.out _ _) | (go_at_call 22; exact yP.out _ _)))
   refine wpQuiet_nil ?_
   intro _ hw'
   obtain ⟨⟨dq, osq⟩, hw''⟩ := hw'
   subst hw''
   have HE := Lib.hid (HBK.out.trans ((below_regrown V dq osq).mono HBK.out.size))
   clear q0 q1 q2 q3 q4 q5 q6 q7 yM yR yP
   generalize Go.Sort.grow (redrawn V dq) osq = W3 at *
   go_wp2_with fail
   go_ret
   exact ⟨rfl, HE.out⟩
  | true =>
   have htn := isEmpty_ne (fun e => by cases ht.1 e : ¬ tt.size = 0)
   clear ht
   refine wp_region_quiet_below (by kernel_rfl) (by kernel_rfl) ?_
   repeat (quiet_step (first | (go_at_call 18; exact yM.out _ _) | (go_at_call 19; exact yR.out _ _) | (go_at_call 22; exact yP.out _ _)))
   refine wpQuiet_nil ?_
   intro _ hw'
   obtain ⟨⟨dq, osq⟩, hw''⟩ := hw'
   subst hw''
   have HE := Lib.hid (HBK.out.trans ((below_regrown V dq osq).mono HBK.out.size))
   clear q0 q1 q2 q3 q4 q5 q6 q7 yM yR yP
   generalize Go.Sort.grow (redrawn V dq) osq = W3 at *
   go_wp2_with fail
   go_ret
   exact ⟨rfl, HE.out⟩
 ·go_wp2_with fail
  have hBk : Below w.heap.size w (((((((((w1.setCell ⟨w.heap.size, 0, none⟩ (.int .i64 kind')).setCell ⟨w.heap.size, 1, none⟩ (.string key')).setCell ⟨w.heap.size, 2, none⟩ (.string body')).setCell ⟨w.heap.size, 3, none⟩ (.int .i64 ver')).setCell ⟨w.heap.size, 4, none⟩ (.int .i64 cond')).setCell ⟨w.heap.size, 5, none⟩ (.string tag')).setCell ⟨w.heap.size, 6, none⟩ (.int .i64 req')).setCell ⟨w.heap.size, 7, none⟩ (.int .i64 low')).setCell ⟨w.heap.size, 7, none⟩ (.int .i64 x)) := HW.out.2.2.setCell (p := ⟨w.heap.size, 7, none⟩) (Nat.le_refl _) _
  have hD : DeC (((((((((w1.setCell ⟨w.heap.size, 0, none⟩ (.int .i64 kind')).setCell ⟨w.heap.size, 1, none⟩ (.string key')).setCell ⟨w.heap.size, 2, none⟩ (.string body')).setCell ⟨w.heap.size, 3, none⟩ (.int .i64 ver')).setCell ⟨w.heap.size, 4, none⟩ (.int .i64 cond')).setCell ⟨w.heap.size, 5, none⟩ (.string tag')).setCell ⟨w.heap.size, 6, none⟩ (.int .i64 req')).setCell ⟨w.heap.size, 7, none⟩ (.int .i64 low')).setCell ⟨w.heap.size, 7, none⟩ (.int .i64 x)) w.heap.size ⟨kind', key', body', ver', cond', tag', req', x⟩ := by
   obtain ⟨t0, t1, t2, t3, t4, t5, t6, t7⟩ := HW.out.1
   obtain ⟨u0, u1, u2, u3, u4, u5, u6, u7⟩ := HW.out.2.1
   dsimp only at t0 t1 t2 t3 t4 t5 t6 t7
   refine ⟨?_, ?_, ?_, ?_, ?_, ?_, ?_, ?_⟩ <;> dsimp only <;> go_simp
  clear d0 d1 d2 d3 d4 d5 d6 d7 f0 f1 f2 f3 f4 f5 f6 f7 hr hw1 HW HB2 HC
  generalize ((((((((w1.setCell ⟨w.heap.size, 0, none⟩ (.int .i64 kind')).setCell ⟨w.heap.size, 1, none⟩ (.string key')).setCell ⟨w.heap.size, 2, none⟩ (.string body')).setCell ⟨w.heap.size, 3, none⟩ (.int .i64 ver')).setCell ⟨w.heap.size, 4, none⟩ (.int .i64 cond')).setCell ⟨w.heap.size, 5, none⟩ (.string tag')).setCell ⟨w.heap.size, 6, none⟩ (.int .i64 req')).setCell ⟨w.heap.size, 7, none⟩ (.int .i64 low')).setCell ⟨w.heap.size, 7, none⟩ (.int .i64 x) = V at *
  obtain ⟨bb, hbb, hh⟩ := both_may ⟨kind', key', body', ver', cond', tag', req', x⟩
  obtain ⟨tt, -, ht, -, hM, hR, hP⟩ := hh (by have := HF.out.2.1; dsimp only at this ⊢; omega) ⟨HF.out.1.1, HF.out.1.2.1, HF.out.1.2.2.1, HF.out.1.2.2.2.1, HF.out.2.2⟩ (by have := HF.out.2.1; dsimp only at this ⊢; omega) (by have := HF.out.2.1; dsimp only at this ⊢; omega)
  simp only [dagg] at hM hR hP
  have HLV := Lib.hid (HL.out.below hBk)
  have yM : Hid (∀ d os, Calls Tryz.prog 18 #[.agg #[.int .i64 kind', .string key', .string body', .int .i64 ver', .int .i64 cond', .string tag', .int .i64 req', .int .i64 x]] (Go.Sort.grow (redrawn V d) os) fun e w'' => e = .returned (.bool bb) ∧ ∃ p : Regrown, w'' = Go.Sort.grow (redrawn V p.d) p.os) := Lib.hid (fun d os => Calls.regrown_of (hM _ (HLV.out.below (below_regrown V d os))))
  have yR : Hid (∀ d os, Calls Tryz.prog 19 #[.agg #[.int .i64 kind', .string key', .string body', .int .i64 ver', .int .i64 cond', .string tag', .int .i64 req', .int .i64 x]] (Go.Sort.grow (redrawn V d) os) fun e w'' => e = .returned (.bool bb) ∧ ∃ p : Regrown, w'' = Go.Sort.grow (redrawn V p.d) p.os) := Lib.hid (fun d os => Calls.regrown_of (hR _))
  have yP : Hid (∀ d os, Calls Tryz.prog 22 #[.agg #[.int .i64 kind', .string key', .string body', .int .i64 ver', .int .i64 cond', .string tag', .int .i64 req', .int .i64 x]] (Go.Sort.grow (redrawn V d) os) fun e w'' => e = .returned (.string tt) ∧ ∃ p : Regrown, w'' = Go.Sort.grow (redrawn V p.d) p.os) := Lib.hid (fun d os => Calls.regrown_of (hP _ (HLV.out.below (below_regrown V d os))))
  obtain ⟨d0, d1, d2, d3, d4, d5, d6, d7⟩ := hD
  dsimp only at d0 d1 d2 d3 d4 d5 d6 d7
  have q0 := cell_regrown d0
  have q1 := cell_regrown d1
  have q2 := cell_regrown d2
  have q3 := cell_regrown d3
  have q4 := cell_regrown d4
  have q5 := cell_regrown d5
  have q6 := cell_regrown d6
  have q7 := cell_regrown d7
  have HBK := Lib.hid hBk
  clear hM hR hP hh hbb d0 d1 d2 d3 d4 d5 d6 d7 hBk
  cases bb with
  | false =>
   obtain rfl := ba_size0 (ht.2 rfl)
   clear ht
   refine wp_region_quiet_below (by kernel_rfl) (by kernel_rfl) ?_
   repeat (quiet_step (first | (go_at_call 18; exact yM.out _ _) | (go_at_call 19; exact yR.out _ _) | (go_at_call 22; exact yP.out _ _)))
   refine wpQuiet_nil ?_
   intro _ hw'
   obtain ⟨⟨dq, osq⟩, hw''⟩ := hw'
   subst hw''
   have HE := Lib.hid (HBK.out.trans ((below_regrown V dq osq).mono HBK.out.size))
   clear q0 q1 q2 q3 q4 q5 q6 q7 yM yR yP
   generalize Go.Sort.grow (redrawn V dq) osq = W3 at *
   go_wp2_with fail
   go_ret
   exact ⟨rfl, HE.out⟩
  | true =>
   have htn := isEmpty_ne (fun e => by cases ht.1 e : ¬ tt.size = 0)
   clear ht
   refine wp_region_quiet_below (by kernel_rfl) (by kernel_rfl) ?_
   repeat (quiet_step (first | (go_at_call 18; exact yM.out _ _) | (go_at_call 19; exact yR.out _ _) | (go_at_call 22; exact yP.out _ _)))
   refine wpQuiet_nil ?_
   intro _ hw'
   obtain ⟨⟨dq, osq⟩, hw''⟩ := hw'
   subst hw''
   have HE := Lib.hid (HBK.out.trans ((below_regrown V dq osq).mono HBK.out.size))
   clear q0 q1 q2 q3 q4 q5 q6 q7 yM yR yP
   generalize Go.Sort.grow (redrawn V dq) osq = W3 at *
   go_wp2_with fail
   go_ret
   exact ⟨rfl, HE.out⟩
 ·go_wp2_with fail
  generalize ((((((((w1.setCell ⟨w.heap.size, 0, none⟩ (.int .i64 kind')).setCell ⟨w.heap.size, 1, none⟩ (.string key')).setCell ⟨w.heap.size, 2, none⟩ (.string body')).setCell ⟨w.heap.size, 3, none⟩ (.int .i64 ver')).setCell ⟨w.heap.size, 4, none⟩ (.int .i64 cond')).setCell ⟨w.heap.size, 5, none⟩ (.string tag')).setCell ⟨w.heap.size, 6, none⟩ (.int .i64 req')).setCell ⟨w.heap.size, 7, none⟩ (.int .i64 low')) = V0 at *
  refine (rtext (5, 6) ⟨by decide, by decide⟩ _).mono ?_
  rintro _ w2 ⟨rfl, hb3⟩
  have hz : (strN (textL (5, 6))).size ≤ 1000 := by rw [text_size]; omega
  generalize strN (textL (5, 6)) = Z at *
  have hV0 : w.heap.size < V0.heap.size := World.block_lt_of_cell? V0 _ HW.out.1.1
  have HW2 := Lib.hid (And.intro (HW.out.1.below hb3) (And.intro (HW.out.2.1.below hV0 hb3) (HW.out.2.2.trans (hb3.mono HW.out.2.2.size))))
  clear d0 d1 d2 d3 d4 d5 d6 d7 f0 f1 f2 f3 f4 f5 f6 f7 HW hb3 hV0
  obtain ⟨d0, d1, d2, d3, d4, d5, d6, d7⟩ := HW2.out.1
  obtain ⟨f0, f1, f2, f3, f4, f5, f6, f7⟩ := HW2.out.2.1
  dsimp only at d0 d1 d2 d3 d4 d5 d6 d7
  go_wp2_with fail
  have hBk : Below w.heap.size w (w2.setCell ⟨w.heap.size, 5, none⟩ (.string Z)) := HW2.out.2.2.setCell (p := ⟨w.heap.size, 5, none⟩) (Nat.le_refl _) _
  have hD : DeC (w2.setCell ⟨w.heap.size, 5, none⟩ (.string Z)) w.heap.size ⟨kind', key', body', ver', cond', Z, req', low'⟩ := by
   obtain ⟨t0, t1, t2, t3, t4, t5, t6, t7⟩ := HW2.out.1
   obtain ⟨u0, u1, u2, u3, u4, u5, u6, u7⟩ := HW2.out.2.1
   dsimp only at t0 t1 t2 t3 t4 t5 t6 t7
   refine ⟨?_, ?_, ?_, ?_, ?_, ?_, ?_, ?_⟩ <;> dsimp only <;> go_simp
  clear d0 d1 d2 d3 d4 d5 d6 d7 f0 f1 f2 f3 f4 f5 f6 f7 hr hw1 HW2 HB2 HC
  generalize w2.setCell ⟨w.heap.size, 5, none⟩ (.string Z) = V at *
  obtain ⟨bb, hbb, hh⟩ := both_may ⟨kind', key', body', ver', cond', Z, req', low'⟩
  obtain ⟨tt, -, ht, -, hM, hR, hP⟩ := hh (by have := HF.out.2.1; dsimp only at this ⊢; omega) HF.out.1 (by have := HF.out.2.1; dsimp only at this ⊢; omega) (by exact hz)
  simp only [dagg] at hM hR hP
  have HLV := Lib.hid (HL.out.below hBk)
  have yM : Hid (∀ d os, Calls Tryz.prog 18 #[.agg #[.int .i64 kind', .string key', .string body', .int .i64 ver', .int .i64 cond', .string Z, .int .i64 req', .int .i64 low']] (Go.Sort.grow (redrawn V d) os) fun e w'' => e = .returned (.bool bb) ∧ ∃ p : Regrown, w'' = Go.Sort.grow (redrawn V p.d) p.os) := Lib.hid (fun d os => Calls.regrown_of (hM _ (HLV.out.below (below_regrown V d os))))
  have yR : Hid (∀ d os, Calls Tryz.prog 19 #[.agg #[.int .i64 kind', .string key', .string body', .int .i64 ver', .int .i64 cond', .string Z, .int .i64 req', .int .i64 low']] (Go.Sort.grow (redrawn V d) os) fun e w'' => e = .returned (.bool bb) ∧ ∃ p : Regrown, w'' = Go.Sort.grow (redrawn V p.d) p.os) := Lib.hid (fun d os => Calls.regrown_of (hR _))
  have yP : Hid (∀ d os, Calls Tryz.prog 22 #[.agg #[.int .i64 kind', .string key', .string body', .int .i64 ver', .int .i64 cond', .string Z, .int .i64 req', .int .i64 low']] (Go.Sort.grow (redrawn V d) os) fun e w'' => e = .returned (.string tt) ∧ ∃ p : Regrown, w'' = Go.Sort.grow (redrawn V p.d) p.os) := Lib.hid (fun d os => Calls.regrown_of (hP _ (HLV.out.below (below_regrown V d os))))
  obtain ⟨d0, d1, d2, d3, d4, d5, d6, d7⟩ := hD
  dsimp only at d0 d1 d2 d3 d4 d5 d6 d7
  have q0 := cell_regrown d0
  have q1 := cell_regrown d1
  have q2 := cell_regrown d2
  have q3 := cell_regrown d3
  have q4 := cell_regrown d4
  have q5 := cell_regrown d5
  have q6 := cell_regrown d6
  have q7 := cell_regrown d7
  have HBK := Lib.hid hBk
  clear hM hR hP hh hbb d0 d1 d2 d3 d4 d5 d6 d7 hBk
  cases bb with
  | false =>
   obtain rfl := ba_size0 (ht.2 rfl)
   clear ht
   refine wp_region_quiet_below (by kernel_rfl) (by kernel_rfl) ?_
   repeat (quiet_step (first | (go_at_call 18; exact yM.out _ _) | (go_at_call 19; exact yR.out _ _) | (go_at_call 22; exact yP.out _ _)))
   refine wpQuiet_nil ?_
   intro _ hw'
   obtain ⟨⟨dq, osq⟩, hw''⟩ := hw'
   subst hw''
   have HE := Lib.hid (HBK.out.trans ((below_regrown V dq osq).mono HBK.out.size))
   clear q0 q1 q2 q3 q4 q5 q6 q7 yM yR yP
   generalize Go.Sort.grow (redrawn V dq) osq = W3 at *
   go_wp2_with fail
   go_ret
   exact ⟨rfl, HE.out⟩
  | true =>
   have htn := isEmpty_ne (fun e => by cases ht.1 e : ¬ tt.size = 0)
   clear ht
   refine wp_region_quiet_below (by kernel_rfl) (by kernel_rfl) ?_
   repeat (quiet_step (first | (go_at_call 18; exact yM.out _ _) | (go_at_call 19; exact yR.out _ _) | (go_at_call 22; exact yP.out _ _)))
   refine wpQuiet_nil ?_
   intro _ hw'
   obtain ⟨⟨dq, osq⟩, hw''⟩ := hw'
   subst hw''
   have HE := Lib.hid (HBK.out.trans ((below_regrown V dq osq).mono HBK.out.size))
   clear q0 q1 q2 q3 q4 q5 q6 q7 yM yR yP
   generalize Go.Sort.grow (redrawn V dq) osq = W3 at *
   go_wp2_with fail
   go_ret
   exact ⟨rfl, HE.out⟩
 ·have hsz8 : (((((((((w1.setCell ⟨w.heap.size, 0, none⟩ (.int .i64 kind')).setCell ⟨w.heap.size, 1, none⟩ (.string key')).setCell ⟨w.heap.size, 2, none⟩ (.string body')).setCell ⟨w.heap.size, 3, none⟩ (.int .i64 ver')).setCell ⟨w.heap.size, 4, none⟩ (.int .i64 cond')).setCell ⟨w.heap.size, 5, none⟩ (.string tag')).setCell ⟨w.heap.size, 6, none⟩ (.int .i64 req')).setCell ⟨w.heap.size, 7, none⟩ (.int .i64 low'))).heap.size = w1.heap.size := by simp
  have hmk : ∀ w : World, (Instr.makeSlice 50 (.int .i64 301) (.int .i64 301)).run Tryz.prog w = .ok (.slice (some ⟨w.heap.size, 0, none⟩) 301 301) (w.alloc (.cells (madeCells #[.int .u8 0] 301) 5)) := fun w => mk_zeros5 301 (by omega) w
  have hcv := zeros_conv5 301 (by omega) (((((((((w1.setCell ⟨w.heap.size, 0, none⟩ (.int .i64 kind')).setCell ⟨w.heap.size, 1, none⟩ (.string key')).setCell ⟨w.heap.size, 2, none⟩ (.string body')).setCell ⟨w.heap.size, 3, none⟩ (.int .i64 ver')).setCell ⟨w.heap.size, 4, none⟩ (.int .i64 cond')).setCell ⟨w.heap.size, 5, none⟩ (.string tag')).setCell ⟨w.heap.size, 6, none⟩ (.int .i64 req')).setCell ⟨w.heap.size, 7, none⟩ (.int .i64 low')))
  rw [hsz8] at hcv
  have hz : (zeroT 301).size ≤ 1000 := by rw [zeroT_size]; omega
  have hlt1 : w.heap.size < w1.heap.size := World.block_lt_of_cell? w1 _ d0
  have hne1 : w.heap.size ≠ w1.heap.size := by omega
  have hne2 : w1.heap.size ≠ w.heap.size := by omega
  clear hsz8
  generalize zeroT 301 = Z at *
  generalize madeCells #[.int .u8 0] 301 = MC at *
  go_wp2_with fail
  have hB9 := HW.out.2.2.setCell (p := ⟨w.heap.size, 2, none⟩) (Nat.le_refl _) (.string Z)
  have hBk : Below w.heap.size w ((((((((((w1.setCell ⟨w.heap.size, 0, none⟩ (.int .i64 kind')).setCell ⟨w.heap.size, 1, none⟩ (.string key')).setCell ⟨w.heap.size, 2, none⟩ (.string body')).setCell ⟨w.heap.size, 3, none⟩ (.int .i64 ver')).setCell ⟨w.heap.size, 4, none⟩ (.int .i64 cond')).setCell ⟨w.heap.size, 5, none⟩ (.string tag')).setCell ⟨w.heap.size, 6, none⟩ (.int .i64 req')).setCell ⟨w.heap.size, 7, none⟩ (.int .i64 low')).setCell ⟨w.heap.size, 2, none⟩ (.string Z)).alloc (.cells MC 5)) := hB9.alloc hB9.size _
  have hD := (HW.out.1.setBody HW.out.2.1 Z).below ((Below.refl _ _).alloc (Nat.le_refl _) (.cells MC 5))
  clear d0 d1 d2 d3 d4 d5 d6 d7 f0 f1 f2 f3 f4 f5 f6 f7 hr hw1 HW HB2 HC hB9 hcv hmk hne1 hne2 hlt1
  generalize (((((((((w1.setCell ⟨w.heap.size, 0, none⟩ (.int .i64 kind')).setCell ⟨w.heap.size, 1, none⟩ (.string key')).setCell ⟨w.heap.size, 2, none⟩ (.string body')).setCell ⟨w.heap.size, 3, none⟩ (.int .i64 ver')).setCell ⟨w.heap.size, 4, none⟩ (.int .i64 cond')).setCell ⟨w.heap.size, 5, none⟩ (.string tag')).setCell ⟨w.heap.size, 6, none⟩ (.int .i64 req')).setCell ⟨w.heap.size, 7, none⟩ (.int .i64 low')).setCell ⟨w.heap.size, 2, none⟩ (.string Z)).alloc (.cells MC 5) = V at *
  obtain ⟨bb, hbb, hh⟩ := both_may ⟨kind', key', Z, ver', cond', tag', req', low'⟩
  obtain ⟨tt, -, ht, -, hM, hR, hP⟩ := hh (by have := HF.out.2.1; dsimp only at this ⊢; omega) HF.out.1 (by exact hz) (by have := HF.out.2.1; dsimp only at this ⊢; omega)
  simp only [dagg] at hM hR hP
  have HLV := Lib.hid (HL.out.below hBk)
  have yM : Hid (∀ d os, Calls Tryz.prog 18 #[.agg #[.int .i64 kind', .string key', .string Z, .int .i64 ver', .int .i64 cond', .string tag', .int .i64 req', .int .i64 low']] (Go.Sort.grow (redrawn V d) os) fun e w'' => e = .returned (.bool bb) ∧ ∃ p : Regrown, w'' = Go.Sort.grow (redrawn V p.d) p.os) := Lib.hid (fun d os => Calls.regrown_of (hM _ (HLV.out.below (below_regrown V d os))))
  have yR : Hid (∀ d os, Calls Tryz.prog 19 #[.agg #[.int .i64 kind', .string key', .string Z, .int .i64 ver', .int .i64 cond', .string tag', .int .i64 req', .int .i64 low']] (Go.Sort.grow (redrawn V d) os) fun e w'' => e = .returned (.bool bb) ∧ ∃ p : Regrown, w'' = Go.Sort.grow (redrawn V p.d) p.os) := Lib.hid (fun d os => Calls.regrown_of (hR _))
  have yP : Hid (∀ d os, Calls Tryz.prog 22 #[.agg #[.int .i64 kind', .string key', .string Z, .int .i64 ver', .int .i64 cond', .string tag', .int .i64 req', .int .i64 low']] (Go.Sort.grow (redrawn V d) os) fun e w'' => e = .returned (.string tt) ∧ ∃ p : Regrown, w'' = Go.Sort.grow (redrawn V p.d) p.os) := Lib.hid (fun d os => Calls.regrown_of (hP _ (HLV.out.below (below_regrown V d os))))
  obtain ⟨d0, d1, d2, d3, d4, d5, d6, d7⟩ := hD
  dsimp only at d0 d1 d2 d3 d4 d5 d6 d7
  have q0 := cell_regrown d0
  have q1 := cell_regrown d1
  have q2 := cell_regrown d2
  have q3 := cell_regrown d3
  have q4 := cell_regrown d4
  have q5 := cell_regrown d5
  have q6 := cell_regrown d6
  have q7 := cell_regrown d7
  have HBK := Lib.hid hBk
  clear hM hR hP hh hbb d0 d1 d2 d3 d4 d5 d6 d7 hBk
  cases bb with
  | false =>
   obtain rfl := ba_size0 (ht.2 rfl)
   clear ht
   refine wp_region_quiet_below (by kernel_rfl) (by kernel_rfl) ?_
   repeat (quiet_step (first | (go_at_call 18; exact yM.out _ _) | (go_at_call 19; exact yR.out _ _) | (go_at_call 22; exact yP.out _ _)))
   refine wpQuiet_nil ?_
   intro _ hw'
   obtain ⟨⟨dq, osq⟩, hw''⟩ := hw'
   subst hw''
   have HE := Lib.hid (HBK.out.trans ((below_regrown V dq osq).mono HBK.out.size))
   clear q0 q1 q2 q3 q4 q5 q6 q7 yM yR yP
   generalize Go.Sort.grow (redrawn V dq) osq = W3 at *
   go_wp2_with fail
   go_ret
   exact ⟨rfl, HE.out⟩
  | true =>
   have htn := isEmpty_ne (fun e => by cases ht.1 e : ¬ tt.size = 0)
   clear ht
   refine wp_region_quiet_below (by kernel_rfl) (by kernel_rfl) ?_
   repeat (quiet_step (first | (go_at_call 18; exact yM.out _ _) | (go_at_call 19; exact yR.out _ _) | (go_at_call 22; exact yP.out _ _)))
   refine wpQuiet_nil ?_
   intro _ hw'
   obtain ⟨⟨dq, osq⟩, hw''⟩ := hw'
   subst hw''
   have HE := Lib.hid (HBK.out.trans ((below_regrown V dq osq).mono HBK.out.size))
   clear q0 q1 q2 q3 q4 q5 q6 q7 yM yR yP
   generalize Go.Sort.grow (redrawn V dq) osq = W3 at *
   go_wp2_with fail
   go_ret
   exact ⟨rfl, HE.out⟩
end Go.Proofs.YtoealjcjpjapkaaGreatDoor
