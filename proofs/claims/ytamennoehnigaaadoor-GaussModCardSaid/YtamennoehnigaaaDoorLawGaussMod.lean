import Derived.Test.YtamennoehnigaaaDoorLaw1
namespace Go.Proofs.YtamennoehnigaaaDoor
open Go.RowKit Go.Proofs.Flo Go.Proofs.Cpl

/-- Any int64 as a float. -/
theorem float_of (n : Int) (h0 : -9223372036854775808 ≤ n) (h1 : n ≤ 9223372036854775807) : ∃ n' : Int, VW 0 (floatOfInt .f64 n) n' ∧ (n.natAbs < 2 ^ 53 → n' = n) ∧ (2 ^ 53 ≤ n.natAbs → 2 ^ 53 ≤ n'.natAbs ∧ (n' < 0 ↔ n < 0)) := by
  by_cases h : n.natAbs < 2 ^ 53
  · refine ⟨n, ?_, fun _ => rfl, fun g => absurd h (by omega)⟩
    rw [floatOfInt_eq n h]
    exact VW_fk 0 n (by omega) h
  · obtain ⟨n', h2, h3, h4⟩ := big_V n (by omega) (by omega)
    exact ⟨n', h2, fun g => absurd g h, fun _ => ⟨h3, h4⟩⟩

theorem reach_out {a b : Int} (ha0 : -9223372036854775808 ≤ a) (ha1 : a ≤ 9223372036854775807) (hb0 : -9223372036854775808 ≤ b) (hb1 : b ≤ 9223372036854775807)
    (h : a < -1125899906842624 ∨ 1125899906842624 < a ∨ b < -1125899906842624 ∨ 1125899906842624 < b) : (Ieee.double.read (floatOfInt .f64 a)).isNaN = false ∧ (Ieee.double.read (floatOfInt .f64 b)).isNaN = false ∧ reachB (floatOfInt .f64 a) (floatOfInt .f64 b) = false := by
  obtain ⟨a', va, a1, a2⟩ := float_of a ha0 ha1
  obtain ⟨b', vb, b1, b2⟩ := float_of b hb0 hb1
  refine ⟨va.nan, vb.nan, ?_⟩
  unfold reachB
  have h0 := VW_fk 0 (-1125899906842624) (by omega) (by decide)
  have h1 := VW_fk 0 1125899906842624 (by omega) (by decide)
  rw [fk_unreach] at h0
  rw [fk_reach] at h1
  rw [leW_of h0 va, leW_of va h1, leW_of h0 vb, leW_of vb h1]
  by_cases hA : a < -1125899906842624 ∨ 1125899906842624 < a
  · have : ¬ (-1125899906842624 ≤ a' ∧ a' ≤ 1125899906842624) := by
      by_cases g : a.natAbs < 2 ^ 53
      · have := a1 g; omega
      · have := a2 (by omega); omega
    by_cases g : -1125899906842624 ≤ a'
    · have g2 : ¬ a' ≤ 1125899906842624 := fun k => this ⟨g, k⟩
      simp [g2]
    · simp [g]
  · have : ¬ (-1125899906842624 ≤ b' ∧ b' ≤ 1125899906842624) := by
      by_cases g : b.natAbs < 2 ^ 53
      · have := b1 g; omega
      · have := b2 (by omega); omega
    by_cases g : -1125899906842624 ≤ b'
    · have g2 : ¬ b' ≤ 1125899906842624 := fun k => this ⟨g, k⟩
      simp [g2]
    · simp [g]

set_option maxRecDepth 100000 in
set_option maxHeartbeats 1000000 in
theorem gaussMod_out (a b : Int) (half : Bool) (w : World) (hbg : BegunTrue) (h : LibAt w) (ha0 : -9223372036854775808 ≤ a) (ha1 : a ≤ 9223372036854775807) (hb0 : -9223372036854775808 ≤ b) (hb1 : b ≤ 9223372036854775807)
    (hout : a < -1125899906842624 ∨ 1125899906842624 < a ∨ b < -1125899906842624 ∨ 1125899906842624 < b) :
    Calls Tryd.prog 4 #[.int .i64 a, .int .i64 b, .bool half] w fun e w' => e = .returned (.bool true) ∧ Below w.heap.size w w' := by
  have HB := Lib.hid (hbg w h)
  clear hbg h
  obtain ⟨nx, ny, hr⟩ := reach_out ha0 ha1 hb0 hb1 hout
  have M := Lib.hid (mod_not _ _ nx ny hr)
  have s7 : (FloatKind.f64.format.order 0 0 == some .eq) = true := by decide
  clear nx ny hr ha0 ha1 hb0 hb1
  by_cases h1 : a < -1125899906842624
  · clear hout
    go_enter Tryd.func4, Tryd.ntmps4
    go_wp2_with fail
    refine HB.out.mono ?_
    rintro _ w0 ⟨rfl, hb0⟩
    go_wp2_with fail
    refine (M.out _).mono ?_
    rintro _ w' ⟨rfl, rfl⟩
    go_wp2_with fail
    go_ret
    exact ⟨rfl, hb0⟩
  by_cases h2 : 1125899906842624 < a
  · clear hout
    go_enter Tryd.func4, Tryd.ntmps4
    go_wp2_with fail
    refine HB.out.mono ?_
    rintro _ w0 ⟨rfl, hb0⟩
    go_wp2_with fail
    refine (M.out _).mono ?_
    rintro _ w' ⟨rfl, rfl⟩
    go_wp2_with fail
    go_ret
    exact ⟨rfl, hb0⟩
  by_cases h3 : b < -1125899906842624
  · clear hout
    go_enter Tryd.func4, Tryd.ntmps4
    go_wp2_with fail
    refine HB.out.mono ?_
    rintro _ w0 ⟨rfl, hb0⟩
    go_wp2_with fail
    refine (M.out _).mono ?_
    rintro _ w' ⟨rfl, rfl⟩
    go_wp2_with fail
    go_ret
    exact ⟨rfl, hb0⟩
  have h4 : 1125899906842624 < b := by omega
  clear hout
  go_enter Tryd.func4, Tryd.ntmps4
  go_wp2_with fail
  refine HB.out.mono ?_
  rintro _ w0 ⟨rfl, hb0⟩
  go_wp2_with fail
  refine (M.out _).mono ?_
  rintro _ w' ⟨rfl, rfl⟩
  go_wp2_with fail
  go_ret
  exact ⟨rfl, hb0⟩

theorem half_word : fk 1 1 = 4602678819172646912 := by decide

theorem sum_half (a b : Int) (ha : a.natAbs ≤ 2 ^ 41) (hb : b.natAbs ≤ 2 ^ 50) : cSumBits .add .f64 (fk 0 a) (fk 0 b) 4602678819172646912 0 = some (fk 1 (2 * a + 1), fk 0 b) := by
  unfold cSumBits
  rw [← half_word, ← fk_half a (by omega)]
  rw [show floatBits .add .f64 (fk 1 (2 * a)) (fk 1 1) = some (fk 1 (2 * a + 1)) from add_fk 1 (2 * a) 1 (by omega) (by omega) (by decide) (by omega)]
  have h := add_fk 0 b 0 (by omega) (by omega) (by decide) (by omega)
  rw [Int.add_zero, fk_zero] at h
  rw [show floatBits .add .f64 (fk 0 b) 0 = some (fk 0 b) from h]
  rfl

set_option maxRecDepth 100000 in
set_option maxHeartbeats 1000000 in
theorem gaussMod_half (a b : Int) (w : World) (hbg : BegunTrue) (h : LibAt w) (ha0 : -1099511627776 < a) (ha1 : a < 1099511627776) (hb0 : -1125899906842624 ≤ b) (hb1 : b ≤ 1125899906842624) :
    Calls Tryd.prog 4 #[.int .i64 a, .int .i64 b, .bool true] w fun e w' => e = .returned (.bool true) ∧ Below w.heap.size w w' := by
  have HB := Lib.hid (hbg w h)
  clear hbg h
  have f1 : floatOfInt .f64 a = fk 0 a := floatOfInt_eq _ (by omega)
  have f2 : floatOfInt .f64 b = fk 0 b := floatOfInt_eq _ (by omega)
  have k1 := fun t w => run_complex_sum (P := Tryd.prog) w .add (Or.inl rfl) t .f64 _ _ _ _ _ _ (sum_half a b (by omega) (by omega))
  have vx := VW_fk 1 (2 * a + 1) (by omega) (by omega)
  have vy := VW_fk 0 b (by omega) (by omega)
  have he := eqW_flr_half (2 * a + 1) (by omega) (by omega)
  have hr : reachB (fk 1 (2 * a + 1)) (fk 0 b) = false := by unfold reachB; rw [he]; simp
  have hm : mayB (fk 1 (2 * a + 1)) (fk 0 b) = false := by unfold mayB; rw [he]; simp
  have M := Lib.hid (mod_not _ _ vx.nan vy.nan hr)
  have C := Lib.hid (may_not _ _ vx.nan vy.nan hm)
  have s7 : (FloatKind.f64.format.order 0 0 == some .eq) = true := by decide
  have i1 : ¬ a < -1125899906842624 := by omega
  have i2 : ¬ 1125899906842624 < a := by omega
  have i3 : ¬ b < -1125899906842624 := by omega
  have i4 : ¬ 1125899906842624 < b := by omega
  clear vx vy he hr hm
  go_enter Tryd.func4, Tryd.ntmps4
  go_wp2_with fail
  refine HB.out.mono ?_
  rintro _ w0 ⟨rfl, hb0⟩
  go_wp2_with fail
  refine (M.out _).mono ?_
  rintro _ w' ⟨rfl, rfl⟩
  go_wp2_with fail
  refine (C.out _).mono ?_
  rintro _ w' ⟨rfl, rfl⟩
  go_wp2_with fail
  go_ret
  exact ⟨rfl, hb0⟩

set_option maxRecDepth 100000 in
set_option maxHeartbeats 4000000 in
theorem gaussMod_whole (a b : Int) (half : Bool) (w : World) (hbg : BegunTrue) (h : LibAt w) (ha0 : -1125899906842624 ≤ a) (ha1 : a ≤ 1125899906842624) (hb0 : -1125899906842624 ≤ b) (hb1 : b ≤ 1125899906842624)
    (hhalf : half = false ∨ (half = true ∧ 1099511627776 ≤ a) ∨ (half = true ∧ a < 1099511627776 ∧ a ≤ -1099511627776)) :
    Calls Tryd.prog 4 #[.int .i64 a, .int .i64 b, .bool half] w fun e w' => e = .returned (.bool true) ∧ Below w.heap.size w w' := by
  have HB := Lib.hid (hbg w h)
  clear hbg h
  have f1 : floatOfInt .f64 a = fk 0 a := floatOfInt_eq _ (by omega)
  have f2 : floatOfInt .f64 b = fk 0 b := floatOfInt_eq _ (by omega)
  have va := VW_fk 0 a (by omega) (by omega)
  have vb := VW_fk 0 b (by omega) (by omega)
  have hm := mayB_int a b (by omega) (by omega)
  have M : Hid (∀ w, Calls Tryd.prog 29 #[.complex .f64 (fk 0 a) (fk 0 b)] w fun e w' => e = .returned (.complex .f64 (fk 0 (red (a, b)).1) (fk 0 (red (a, b)).2)) ∧ w = w') := Lib.hid (mod_int a b (by omega) (by omega))
  have PA := Lib.hid (pair_p a b)
  have hp := ok_red (a, b)
  generalize red (a, b) = p at *
  have i1 : ¬ a < -1125899906842624 := by omega
  have i2 : ¬ 1125899906842624 < a := by omega
  have i3 : ¬ b < -1125899906842624 := by omega
  have i4 : ¬ 1125899906842624 < b := by omega
  have C := Lib.hid (may_any (fk 0 a) (fk 0 b) va.nan vb.nan)
  clear va vb
  rcases hhalf with rfl | ⟨rfl, hh⟩ | ⟨rfl, hh, hh2⟩
  all_goals
    by_cases g1 : a < 0
    · first
        | (exfalso; omega)
        | (rw [decide_eq_false (by omega)] at hm
           rw [hm] at C
           clear hm
           have s := self_ok hp
           go_enter Tryd.func4, Tryd.ntmps4
           go_wp2_with fail
           refine HB.out.mono ?_
           rintro _ w0 ⟨rfl, hb0⟩
           go_wp2_with fail
           refine (M.out _).mono ?_
           rintro _ w' ⟨rfl, rfl⟩
           go_wp2_with fail
           refine (PA.out _).mono ?_
           rintro _ w1 ⟨rfl, hb1⟩
           go_wp2_with fail
           refine (z_p p hp _).mono ?_
           rintro _ w2 ⟨rfl, hb2⟩
           go_wp2_with fail
           refine (C.out _).mono ?_
           rintro _ w' ⟨rfl, rfl⟩
           go_wp2_with fail
           go_ret
           exact ⟨rfl, (hb0.trans (hb1.mono (by have := hb0.size; omega))).trans (hb2.mono (by have := hb0.size; have := hb1.size; omega))⟩)
    by_cases g2 : 65521 ≤ a
    · first
        | (exfalso; omega)
        | (rw [decide_eq_false (by omega)] at hm
           rw [hm] at C
           clear hm
           have t2 : decide (a < 65521) = false := decide_eq_false (by omega)
           have s := self_ok hp
           go_enter Tryd.func4, Tryd.ntmps4
           go_wp2_with fail
           refine HB.out.mono ?_
           rintro _ w0 ⟨rfl, hb0⟩
           go_wp2_with fail
           refine (M.out _).mono ?_
           rintro _ w' ⟨rfl, rfl⟩
           go_wp2_with fail
           refine (PA.out _).mono ?_
           rintro _ w1 ⟨rfl, hb1⟩
           go_wp2_with fail
           refine (z_p p hp _).mono ?_
           rintro _ w2 ⟨rfl, hb2⟩
           go_wp2_with fail
           refine (C.out _).mono ?_
           rintro _ w' ⟨rfl, rfl⟩
           go_wp2_with fail
           go_ret
           exact ⟨rfl, (hb0.trans (hb1.mono (by have := hb0.size; omega))).trans (hb2.mono (by have := hb0.size; have := hb1.size; omega))⟩)
    by_cases g3 : b < 0
    · first
        | (exfalso; omega)
        | (rw [decide_eq_false (by omega)] at hm
           rw [hm] at C
           clear hm
           have s := self_ok hp
           go_enter Tryd.func4, Tryd.ntmps4
           go_wp2_with fail
           refine HB.out.mono ?_
           rintro _ w0 ⟨rfl, hb0⟩
           go_wp2_with fail
           refine (M.out _).mono ?_
           rintro _ w' ⟨rfl, rfl⟩
           go_wp2_with fail
           refine (PA.out _).mono ?_
           rintro _ w1 ⟨rfl, hb1⟩
           go_wp2_with fail
           refine (z_p p hp _).mono ?_
           rintro _ w2 ⟨rfl, hb2⟩
           go_wp2_with fail
           refine (C.out _).mono ?_
           rintro _ w' ⟨rfl, rfl⟩
           go_wp2_with fail
           go_ret
           exact ⟨rfl, (hb0.trans (hb1.mono (by have := hb0.size; omega))).trans (hb2.mono (by have := hb0.size; have := hb1.size; omega))⟩)
    by_cases g4 : 65521 ≤ b
    · first
        | (exfalso; omega)
        | (rw [decide_eq_false (by omega)] at hm
           rw [hm] at C
           clear hm
           have t4 : decide (b < 65521) = false := decide_eq_false (by omega)
           have s := self_ok hp
           go_enter Tryd.func4, Tryd.ntmps4
           go_wp2_with fail
           refine HB.out.mono ?_
           rintro _ w0 ⟨rfl, hb0⟩
           go_wp2_with fail
           refine (M.out _).mono ?_
           rintro _ w' ⟨rfl, rfl⟩
           go_wp2_with fail
           refine (PA.out _).mono ?_
           rintro _ w1 ⟨rfl, hb1⟩
           go_wp2_with fail
           refine (z_p p hp _).mono ?_
           rintro _ w2 ⟨rfl, hb2⟩
           go_wp2_with fail
           refine (C.out _).mono ?_
           rintro _ w' ⟨rfl, rfl⟩
           go_wp2_with fail
           go_ret
           exact ⟨rfl, (hb0.trans (hb1.mono (by have := hb0.size; omega))).trans (hb2.mono (by have := hb0.size; have := hb1.size; omega))⟩)
    first
      | (exfalso; omega)
      | (have t4 : decide (b < 65521) = true := decide_eq_true (by omega)
         rw [decide_eq_true ⟨⟨by omega, by omega⟩, ⟨by omega, by omega⟩⟩] at hm
         rw [hm] at C
         clear hm
         have s := self_ok hp
         go_enter Tryd.func4, Tryd.ntmps4
         go_wp2_with fail
         refine HB.out.mono ?_
         rintro _ w0 ⟨rfl, hb0⟩
         go_wp2_with fail
         refine (M.out _).mono ?_
         rintro _ w' ⟨rfl, rfl⟩
         go_wp2_with fail
         refine (PA.out _).mono ?_
         rintro _ w1 ⟨rfl, hb1⟩
         go_wp2_with fail
         refine (z_p p hp _).mono ?_
         rintro _ w2 ⟨rfl, hb2⟩
         go_wp2_with fail
         refine (C.out _).mono ?_
         rintro _ w' ⟨rfl, rfl⟩
         go_wp2_with fail
         go_ret
         exact ⟨rfl, (hb0.trans (hb1.mono (by have := hb0.size; omega))).trans (hb2.mono (by have := hb0.size; have := hb1.size; omega))⟩)

theorem gaussMod_walk (a b : Int) (half : Bool) (w : World) (hbg : BegunTrue) (h : LibAt w) (ha0 : -9223372036854775808 ≤ a) (ha1 : a ≤ 9223372036854775807) (hb0 : -9223372036854775808 ≤ b) (hb1 : b ≤ 9223372036854775807) :
    Calls Tryd.prog 4 #[.int .i64 a, .int .i64 b, .bool half] w fun e w' => e = .returned (.bool true) ∧ Below w.heap.size w w' := by
  by_cases hin : (-1125899906842624 ≤ a ∧ a ≤ 1125899906842624) ∧ (-1125899906842624 ≤ b ∧ b ≤ 1125899906842624)
  · obtain ⟨⟨h1, h2⟩, h3, h4⟩ := hin
    cases half with
    | false => exact gaussMod_whole a b false w hbg h h1 h2 h3 h4 (Or.inl rfl)
    | true =>
      by_cases g1 : 1099511627776 ≤ a
      · exact gaussMod_whole a b true w hbg h h1 h2 h3 h4 (Or.inr (Or.inl ⟨rfl, g1⟩))
      · by_cases g2 : a ≤ -1099511627776
        · exact gaussMod_whole a b true w hbg h h1 h2 h3 h4 (Or.inr (Or.inr ⟨rfl, by omega, g2⟩))
        · exact gaussMod_half a b w hbg h (by omega) (by omega) h3 h4
  · exact gaussMod_out a b half w hbg h ha0 ha1 hb0 hb1 (by omega)

end Go.Proofs.YtamennoehnigaaaDoor
