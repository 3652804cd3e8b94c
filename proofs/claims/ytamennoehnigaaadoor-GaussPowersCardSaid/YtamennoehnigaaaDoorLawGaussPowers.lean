import Derived.Test.YtamennoehnigaaaDoorLawGaussLaws
namespace Go.Proofs.YtamennoehnigaaaDoor
open Go.RowKit Go.Proofs.Flo Go.Proofs.Cpl

theorem gpow_i (n : Nat) : gpow (0, 1) (4 * n) = (1, 0) := by
  induction n with
  | zero => rfl
  | succ n ih =>
    rw [show 4 * (n + 1) = 4 * n + 4 from by omega, ← gpow_add, ih]
    decide

theorem pow_i_gc (n : Nat) (hn : n ≤ 60) (w : World) :
    Calls Tryd.prog 28 #[.complex .f64 0 4607182418800017408, .int .i64 (4 * (n : Int))] w fun e w' => e = .returned (.complex .f64 4607182418800017408 0) ∧ w = w' := by
  have h := pow_gc (0, 1) (4 * n) ok_i (by omega) w
  rw [gpow_i] at h
  unfold gc at h
  simp only [fk_one, fk_zero] at h
  rw [show ((4 * n : Nat) : Int) = 4 * (n : Int) from by omega] at h
  exact h

theorem five_gc (w : World) :
    Calls Tryd.prog 26 #[.complex .f64 4611686018427387904 4607182418800017408, .complex .f64 4611686018427387904 4679237813814689792] w fun e w' => e = .returned (.complex .f64 4617315517961601024 0) ∧ w = w' := by
  have h := mul_gc (2, 1) (2, 65520) (by unfold Ok; decide) (by unfold Ok; decide) w
  rw [show gmul (2, 1) (2, 65520) = (5, 0) from by decide] at h
  simp only [fk_one, fk_zero, fk_top, fk_five, show fk 0 2 = 4611686018427387904 from by decide] at h
  exact h

set_option maxRecDepth 100000 in
set_option maxHeartbeats 1000000 in
theorem gaussPowers_out (a b m n : Int) (w : World) (hbg : BegunTrue) (h : LibAt w) (hout : m < 0 ∨ 60 < m ∨ n < 0 ∨ 60 < n) :
    Calls Tryd.prog 13 #[.int .i64 a, .int .i64 b, .int .i64 m, .int .i64 n] w fun e w' => e = .returned (.bool true) ∧ Below w.heap.size w w' := by
  have HB := Lib.hid (hbg w h)
  clear hbg h
  by_cases h1 : m < 0
  · clear hout
    go_enter Tryd.func13, Tryd.ntmps13
    go_wp2_with fail
    refine HB.out.mono ?_
    rintro _ w0 ⟨rfl, hb0⟩
    go_wp2_with fail
    go_ret
    exact ⟨rfl, hb0⟩
  by_cases h2 : 60 < m
  · clear hout
    go_enter Tryd.func13, Tryd.ntmps13
    go_wp2_with fail
    refine HB.out.mono ?_
    rintro _ w0 ⟨rfl, hb0⟩
    go_wp2_with fail
    go_ret
    exact ⟨rfl, hb0⟩
  by_cases h3 : n < 0
  · clear hout
    go_enter Tryd.func13, Tryd.ntmps13
    go_wp2_with fail
    refine HB.out.mono ?_
    rintro _ w0 ⟨rfl, hb0⟩
    go_wp2_with fail
    go_ret
    exact ⟨rfl, hb0⟩
  have h4 : 60 < n := by omega
  clear hout
  go_enter Tryd.func13, Tryd.ntmps13
  go_wp2_with fail
  refine HB.out.mono ?_
  rintro _ w0 ⟨rfl, hb0⟩
  go_wp2_with fail
  go_ret
  exact ⟨rfl, hb0⟩

set_option maxRecDepth 100000 in
set_option maxHeartbeats 1000000 in
theorem gaussPowers_in (a b : Int) (m n : Nat) (w : World) (hbg : BegunTrue) (h : LibAt w) (hm : m ≤ 60) (hn : n ≤ 60) :
    Calls Tryd.prog 13 #[.int .i64 a, .int .i64 b, .int .i64 m, .int .i64 n] w fun e w' => e = .returned (.bool true) ∧ Below w.heap.size w w' := by
  have HB := Lib.hid (hbg w h)
  clear hbg h
  have i1 : ¬ (m : Int) < 0 := by omega
  have i2 : ¬ (60 : Int) < (m : Int) := by omega
  have i3 : ¬ (n : Int) < 0 := by omega
  have i4 : ¬ (60 : Int) < (n : Int) := by omega
  have j1 : (m : Int) ≤ 60 := by omega
  have j2 : (n : Int) ≤ 60 := by omega
  go_enter Tryd.func13, Tryd.ntmps13
  go_wp2_with fail
  refine HB.out.mono ?_
  rintro _ w0 ⟨rfl, hb0⟩
  go_wp2_with fail
  refine (pair_p a b _).mono ?_
  rintro _ w1 ⟨rfl, hb1⟩
  have hp := ok_red (a, b)
  generalize red (a, b) = p at *
  go_wp2_with fail
  refine (z_p p hp _).mono ?_
  rintro _ w2 ⟨rfl, hb2⟩
  have P1 := Lib.hid (pow_gc p m hp (by omega))
  have P2 := Lib.hid (pow_gc p n hp (by omega))
  have P3 := Lib.hid (pow_gc p (m + n) hp (by omega))
  have P4 := Lib.hid (pow_gc p 1 hp (by omega))
  rw [gpow_one hp] at P4
  unfold gc at P1 P2 P3 P4
  go_wp2_with fail
  refine (P1.out _).mono ?_
  rintro _ w' ⟨rfl, rfl⟩
  go_wp2_with fail
  refine (P2.out _).mono ?_
  rintro _ w' ⟨rfl, rfl⟩
  go_wp2_with fail
  refine (mul_gc (gpow p m) (gpow p n) (ok_gpow _ _) (ok_gpow _ _) _).mono ?_
  rintro _ w' ⟨rfl, rfl⟩
  rw [gpow_add]
  have s1 := self_ok (ok_gpow p (m + n))
  go_wp2_with fail
  rw [show (m : Int) + (n : Int) = ((m + n : Nat) : Int) from by omega]
  refine (P3.out _).mono ?_
  rintro _ w' ⟨rfl, rfl⟩
  go_wp2_with fail
  refine (five_gc _).mono ?_
  rintro _ w' ⟨rfl, rfl⟩
  have s6 : (FloatKind.f64.format.order 4617315517961601024 4617315517961601024 == some .eq) = true := by decide
  have s7 : (FloatKind.f64.format.order 0 0 == some .eq) = true := by decide
  have s8 : (FloatKind.f64.format.order 4607182418800017408 4607182418800017408 == some .eq) = true := by decide
  have s9 := self_ok hp
  go_wp2_with fail
  refine (P4.out _).mono ?_
  rintro _ w' ⟨rfl, rfl⟩
  go_wp2_with fail
  refine (pow_i_gc n hn _).mono ?_
  rintro _ w' ⟨rfl, rfl⟩
  go_wp2_with fail
  go_ret
  exact ⟨rfl, (hb0.trans (hb1.mono (by have := hb0.size; omega))).trans (hb2.mono (by have := hb0.size; have := hb1.size; omega))⟩

theorem gaussPowers_walk (a b m n : Int) (w : World) (hbg : BegunTrue) (h : LibAt w) :
    Calls Tryd.prog 13 #[.int .i64 a, .int .i64 b, .int .i64 m, .int .i64 n] w fun e w' => e = .returned (.bool true) ∧ Below w.heap.size w w' := by
  by_cases hin : (0 ≤ m ∧ m ≤ 60) ∧ (0 ≤ n ∧ n ≤ 60)
  · have h := gaussPowers_in a b m.toNat n.toNat w hbg h (by omega) (by omega)
    rw [show ((m.toNat : Nat) : Int) = m from by omega, show ((n.toNat : Nat) : Int) = n from by omega] at h
    exact h
  · exact gaussPowers_out a b m n w hbg h (by omega)

end Go.Proofs.YtamennoehnigaaaDoor
