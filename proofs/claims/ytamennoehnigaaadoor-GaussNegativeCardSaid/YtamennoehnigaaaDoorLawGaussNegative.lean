import Derived.Test.YtamennoehnigaaaDoorLaw1
namespace Go.Proofs.YtamennoehnigaaaDoor
open Go.RowKit Go.Proofs.Flo Go.Proofs.Cpl

set_option maxRecDepth 100000 in
set_option maxHeartbeats 1000000 in
theorem gaussNegative_walk (a b : Int) (w : World) (hbg : BegunTrue) (h : LibAt w) :
    Calls Tryd.prog 14 #[.int .i64 a, .int .i64 b] w fun e w' => e = .returned (.bool true) ∧ Below w.heap.size w w' := by
  have HB := Lib.hid (hbg w h)
  clear hbg h
  have ha1 := Int.tmod_lt_of_pos a (show (0 : Int) < 1099511627776 by decide)
  have ha2 := Int.lt_tmod_of_pos a (show (0 : Int) < 1099511627776 by decide)
  have hb1 := Int.tmod_lt_of_pos b (show (0 : Int) < 1099511627776 by decide)
  have hb2 := Int.lt_tmod_of_pos b (show (0 : Int) < 1099511627776 by decide)
  obtain ⟨p, hp⟩ : ∃ p, a.tmod 1099511627776 = p := ⟨_, rfl⟩
  obtain ⟨q, hq⟩ : ∃ q, b.tmod 1099511627776 = q := ⟨_, rfl⟩
  rw [hp] at ha1 ha2
  rw [hq] at hb1 hb2
  have f1 : floatOfInt .f64 p = fk 0 p := floatOfInt_eq _ (by omega)
  have f2 : floatOfInt .f64 q = fk 0 q := floatOfInt_eq _ (by omega)
  have f3 : floatOfInt .f64 (-p) = fk 0 (-p) := floatOfInt_eq _ (by omega)
  have f4 : floatOfInt .f64 (-q) = fk 0 (-q) := floatOfInt_eq _ (by omega)
  have n1 : IntKind.i64.wrap (-p) = -p := IntWalk.i64_in _ (by omega)
  have n2 : IntKind.i64.wrap (-q) = -q := IntWalk.i64_in _ (by omega)
  have M1 := Lib.hid (mod_int p q (by omega) (by omega))
  have M2 := Lib.hid (mod_int (-p) (-q) (by omega) (by omega))
  have A1 := Lib.hid (add_gc (red (p, q)) (red (-p, -q)) (ok_red _) (ok_red _))
  have hsum : gadd (red (p, q)) (red (-p, -q)) = (0, 0) := by
    unfold gadd
    rw [red_cadd_left, red_cadd_right]
    unfold cadd
    ext
    · show (p + -p) % 65521 = 0; omega
    · show (q + -q) % 65521 = 0; omega
  rw [hsum] at A1
  simp only [fk_zero] at A1
  have B1 := Lib.hid (may_gc (red (p, q)) (ok_red _))
  have B2 := Lib.hid (may_gc (red (-p, -q)) (ok_red _))
  clear hsum
  go_enter Tryd.func14, Tryd.ntmps14
  go_wp2_with fail
  refine HB.out.mono ?_
  rintro _ w0 ⟨rfl, hb0⟩
  go_wp2_with fail
  refine (M1.out _).mono ?_
  rintro _ w' ⟨rfl, rfl⟩
  go_wp2_with fail
  refine (M2.out _).mono ?_
  rintro _ w' ⟨rfl, rfl⟩
  go_wp2_with fail
  refine (A1.out _).mono ?_
  rintro _ w' ⟨rfl, rfl⟩
  have s7 : (FloatKind.f64.format.order 0 0 == some .eq) = true := by decide
  go_wp2_with fail
  refine (B1.out _).mono ?_
  rintro _ w' ⟨rfl, rfl⟩
  go_wp2_with fail
  refine (B2.out _).mono ?_
  rintro _ w' ⟨rfl, rfl⟩
  go_wp2_with fail
  go_ret
  exact ⟨rfl, hb0⟩

end Go.Proofs.YtamennoehnigaaaDoor
