import Derived.Test.YtamennoehnigaaaDoorLaw1
namespace Go.Proofs.YtamennoehnigaaaDoor
open Go.RowKit Go.Proofs.Flo Go.Proofs.Cpl

theorem mul_one_gc (p : Int × Int) (hp : Ok p) (w : World) :
    Calls Tryd.prog 26 #[.complex .f64 (fk 0 p.1) (fk 0 p.2), .complex .f64 4607182418800017408 0] w fun e w' => e = .returned (.complex .f64 (fk 0 p.1) (fk 0 p.2)) ∧ w = w' := by
  have h := mul_gc p (1, 0) hp ok_one w
  rw [gmul_one hp] at h
  simp only [fk_one, fk_zero] at h
  exact h

theorem add_zero_gc (p : Int × Int) (hp : Ok p) (w : World) :
    Calls Tryd.prog 24 #[.complex .f64 (fk 0 p.1) (fk 0 p.2), .complex .f64 0 0] w fun e w' => e = .returned (.complex .f64 (fk 0 p.1) (fk 0 p.2)) ∧ w = w' := by
  have h := add_gc p (0, 0) hp (by unfold Ok; decide) w
  rw [gadd_zero hp] at h
  simp only [fk_zero] at h
  exact h

theorem ii_gc (w : World) :
    Calls Tryd.prog 26 #[.complex .f64 0 4607182418800017408, .complex .f64 0 4607182418800017408] w fun e w' => e = .returned (.complex .f64 4679237813814689792 0) ∧ w = w' := by
  have h := mul_gc (0, 1) (0, 1) ok_i ok_i w
  rw [show gmul (0, 1) (0, 1) = (65520, 0) from by decide] at h
  simp only [fk_one, fk_zero, fk_top] at h
  exact h

set_option maxRecDepth 100000 in
set_option maxHeartbeats 2000000 in
theorem gaussLaws_walk (a b c d g k : Int) (w : World) (hbg : BegunTrue) (h : LibAt w) :
    Calls Tryd.prog 5 #[.int .i64 a, .int .i64 b, .int .i64 c, .int .i64 d, .int .i64 g, .int .i64 k] w fun e w' => e = .returned (.bool true) ∧ Below w.heap.size w w' := by
  have HB := Lib.hid (hbg w h)
  clear hbg h
  go_enter Tryd.func5, Tryd.ntmps5
  go_wp2_with fail
  refine HB.out.mono ?_
  rintro _ w0 ⟨rfl, hb0⟩
  go_wp2_with fail
  refine (pair_p a b _).mono ?_
  rintro _ w1 ⟨rfl, hb1⟩
  have hp := ok_red (a, b)
  generalize red (a, b) = p at *
  go_wp2_with fail
  refine (z_p p hp _).mono ?_
  rintro _ w2 ⟨rfl, hb2⟩
  go_wp2_with fail
  refine (pair_p c d _).mono ?_
  rintro _ w3 ⟨rfl, hb3⟩
  have hq := ok_red (c, d)
  generalize red (c, d) = q at *
  go_wp2_with fail
  refine (z_p q hq _).mono ?_
  rintro _ w4 ⟨rfl, hb4⟩
  go_wp2_with fail
  refine (pair_p g k _).mono ?_
  rintro _ w5 ⟨rfl, hb5⟩
  have hr := ok_red (g, k)
  generalize red (g, k) = r at *
  go_wp2_with fail
  refine (z_p r hr _).mono ?_
  rintro _ w6 ⟨rfl, hb6⟩
  go_wp2_with fail
  refine (add_gc p q hp hq _).mono ?_
  rintro _ w' ⟨rfl, rfl⟩
  go_wp2_with fail
  refine (add_gc q p hq hp _).mono ?_
  rintro _ w' ⟨rfl, rfl⟩
  rw [gadd_comm q p]
  have s1 := self_ok (ok_gadd p q)
  go_wp2_with fail
  refine (mul_gc p q hp hq _).mono ?_
  rintro _ w' ⟨rfl, rfl⟩
  go_wp2_with fail
  refine (mul_gc q p hq hp _).mono ?_
  rintro _ w' ⟨rfl, rfl⟩
  rw [gmul_comm q p]
  have s2 := self_ok (ok_gmul p q)
  go_wp2_with fail
  refine (mul_gc q r hq hr _).mono ?_
  rintro _ w' ⟨rfl, rfl⟩
  go_wp2_with fail
  refine (mul_gc p (gmul q r) hp (ok_gmul _ _) _).mono ?_
  rintro _ w' ⟨rfl, rfl⟩
  go_wp2_with fail
  refine (mul_gc p q hp hq _).mono ?_
  rintro _ w' ⟨rfl, rfl⟩
  go_wp2_with fail
  refine (mul_gc (gmul p q) r (ok_gmul _ _) hr _).mono ?_
  rintro _ w' ⟨rfl, rfl⟩
  rw [gmul_assoc p q r]
  have s3 := self_ok (ok_gmul p (gmul q r))
  go_wp2_with fail
  refine (add_gc q r hq hr _).mono ?_
  rintro _ w' ⟨rfl, rfl⟩
  go_wp2_with fail
  refine (mul_gc p (gadd q r) hp (ok_gadd _ _) _).mono ?_
  rintro _ w' ⟨rfl, rfl⟩
  go_wp2_with fail
  refine (mul_gc p q hp hq _).mono ?_
  rintro _ w' ⟨rfl, rfl⟩
  go_wp2_with fail
  refine (mul_gc p r hp hr _).mono ?_
  rintro _ w' ⟨rfl, rfl⟩
  go_wp2_with fail
  refine (add_gc (gmul p q) (gmul p r) (ok_gmul _ _) (ok_gmul _ _) _).mono ?_
  rintro _ w' ⟨rfl, rfl⟩
  rw [gmul_add p q r]
  have s4 := self_ok (ok_gadd (gmul p q) (gmul p r))
  go_wp2_with fail
  refine (mul_one_gc p hp _).mono ?_
  rintro _ w' ⟨rfl, rfl⟩
  have s5 := self_ok hp
  go_wp2_with fail
  refine (add_zero_gc p hp _).mono ?_
  rintro _ w' ⟨rfl, rfl⟩
  go_wp2_with fail
  refine (ii_gc _).mono ?_
  rintro _ w' ⟨rfl, rfl⟩
  have s6 : (FloatKind.f64.format.order 4679237813814689792 4679237813814689792 == some .eq) = true := by decide
  have s7 : (FloatKind.f64.format.order 0 0 == some .eq) = true := by decide
  go_wp2_with fail
  go_ret
  exact ⟨rfl, (((((hb0.trans (hb1.mono (by have := hb0.size; omega))).trans (hb2.mono (by have := hb0.size; have := hb1.size; omega))).trans (hb3.mono (by have := hb0.size; have := hb1.size; have := hb2.size; omega))).trans (hb4.mono (by have := hb0.size; have := hb1.size; have := hb2.size; have := hb3.size; omega))).trans (hb5.mono (by have := hb0.size; have := hb1.size; have := hb2.size; have := hb3.size; have := hb4.size; omega))).trans (hb6.mono (by have := hb0.size; have := hb1.size; have := hb2.size; have := hb3.size; have := hb4.size; have := hb5.size; omega))⟩

end Go.Proofs.YtamennoehnigaaaDoor
