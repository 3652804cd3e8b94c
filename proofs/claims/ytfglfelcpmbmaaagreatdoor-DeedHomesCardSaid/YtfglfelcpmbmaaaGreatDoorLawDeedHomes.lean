/-
 Contracts of the program, and what they rest on.
-/
import Derived.Test.YtfglfelcpmbmaaaGreatDoorM03
import Derived.Lib.QuietBelow
import Derived.Test.YtfglfelcpmbmaaaGreatDoorRefDa
set_option maxRecDepth 100000
set_option maxHeartbeats 16000000
namespace Go.Proofs.YtfglfelcpmbmaaaGreatDoor
open Go.RowKit
theorem make_zero {a n : Int} : makeP a n = 0 ∨ (makeP a n = a * 4294967296 + n ∧ 1 ≤ a ∧ a ≤ 5 ∧ 1 ≤ n ∧ n < 4294967296) := by
 unfold makeP
 split
 ·rename_i h
  exact .inr ⟨rfl, h⟩
 ·exact .inl rfl
theorem deedHomes_walk (a b n m : Int) (w : World) (hbg : Begun5True) (h : LibAt w) (ha : -9223372036854775808 ≤ a ∧ a ≤ 9223372036854775807) (hb : -9223372036854775808 ≤ b ∧ b ≤ 9223372036854775807) (hn : -9223372036854775808 ≤ n ∧ n ≤ 9223372036854775807) (hm : -9223372036854775808 ≤ m ∧ m ≤ 9223372036854775807) :
  Calls Tryz.prog 6 #[.int .i64 a, .int .i64 b, .int .i64 n, .int .i64 m] w fun e w' => e = .returned (.bool true) ∧ Below w.heap.size w w' := by
 have HB := Lib.hid (hbg w h)
 have HM1 := Lib.hid (make_p a n ha.1 ha.2 hn.1 hn.2)
 have HM2 := Lib.hid (make_p b m hb.1 hb.2 hm.1 hm.2)
 have HR1 := Lib.hid (rmake_p a n ha.1 ha.2 hn.1 hn.2)
 have HR2 := Lib.hid (rmake_p b m hb.1 hb.2 hm.1 hm.2)
 have hx := @make_zero a n
 have hy := @make_zero b m
 generalize makeP a n = x at *
 generalize makeP b m = y at *
 clear hbg h
 go_enter Tryz.func6, Tryz.ntmps6
 go_wp2_with fail
 refine HB.out.mono ?_
 rintro _ w0 ⟨rfl, hb1⟩
 have HB1 := Lib.hid hb1
 clear hb1
 go_wp2_with fail
 refine (HM1.out _).mono ?_
 rintro _ _ ⟨rfl, rfl⟩
 go_wp2_with fail
 refine (HM2.out _).mono ?_
 rintro _ _ ⟨rfl, rfl⟩
 rcases hx with rfl | ⟨hx, ha1, ha5, hn1, hn2⟩
 ·go_wp2_with fail
  refine (HR1.out _).mono ?_
  rintro _ _ ⟨rfl, rfl⟩
  go_wp2_with fail
  refine (HR2.out _).mono ?_
  rintro _ _ ⟨rfl, rfl⟩
  go_wp2_with fail
  go_ret
  exact ⟨rfl, HB1.out⟩
 have x0 : (x == 0) = false := by rw [beq_eq_false_iff_ne]; omega
 rcases hy with rfl | ⟨hy, hb1, hb5, hm1, hm2⟩
 ·go_wp2_with fail
  refine (HR1.out _).mono ?_
  rintro _ _ ⟨rfl, rfl⟩
  go_wp2_with fail
  refine (HR2.out _).mono ?_
  rintro _ _ ⟨rfl, rfl⟩
  go_wp2_with fail
  go_ret
  exact ⟨rfl, HB1.out⟩
 have y0 : (y == 0) = false := by rw [beq_eq_false_iff_ne]; omega
 have HH1 := home_p x (by omega) (by omega)
 have HH2 := home_p y (by omega) (by omega)
 rw [home_hit x a ha1 ha5 (by omega) (by omega)] at HH1
 rw [home_hit y b hb1 hb5 (by omega) (by omega)] at HH2
 have H1 := Lib.hid HH1
 have H2 := Lib.hid HH2
 clear HH1 HH2
 by_cases hab : a = b
 ·subst hab
  by_cases hnm : n = m
  ·subst hnm
   obtain rfl : x = y := by omega
   clear hx hy ha1 ha5 hb1 hb5 hn1 hn2 hm1 hm2 ha hb hn hm
   go_wp2_with fail
   refine (H1.out _).mono ?_
   rintro _ _ ⟨rfl, rfl⟩
   go_wp2_with fail
   refine (H2.out _).mono ?_
   rintro _ _ ⟨rfl, rfl⟩
   go_wp2_with fail
   go_ret
   exact ⟨rfl, HB1.out⟩
  ·have e1 : (x == y) = false := by rw [beq_eq_false_iff_ne]; omega
   have e2 : (n == m) = false := by rw [beq_eq_false_iff_ne]; omega
   by_cases hl : n < m
   ·have e3 : x < y := by omega
    have HE := Lib.hid (And.intro hx hy)
    clear hx hy ha1 ha5 hb1 hb5 hn1 hn2 hm1 hm2 ha hb hn hm hnm HE
    go_wp2_with fail
    refine (H1.out _).mono ?_
    rintro _ _ ⟨rfl, rfl⟩
    go_wp2_with fail
    refine (H2.out _).mono ?_
    rintro _ _ ⟨rfl, rfl⟩
    go_wp2_with fail
    go_ret
    exact ⟨rfl, HB1.out⟩
   ·have e3 : decide (x < y) = false := decide_eq_false (by omega)
    have e4 : decide (n < m) = false := decide_eq_false hl
    clear hx hy ha1 ha5 hb1 hb5 hn1 hn2 hm1 hm2 ha hb hn hm hnm hl
    go_wp2_with fail
    refine (H1.out _).mono ?_
    rintro _ _ ⟨rfl, rfl⟩
    go_wp2_with fail
    refine (H2.out _).mono ?_
    rintro _ _ ⟨rfl, rfl⟩
    go_wp2_with fail
    go_ret
    exact ⟨rfl, HB1.out⟩
 ·have e1 : (x == y) = false := by rw [beq_eq_false_iff_ne]; omega
  have e2 : (a == b) = false := by rw [beq_eq_false_iff_ne]; omega
  have e3 : (a != b) = true := by rw [bne_iff_ne]; omega
  clear hx hy ha1 ha5 hb1 hb5 hn1 hn2 hm1 hm2 ha hb hn hm hab
  go_wp2_with fail
  refine (H1.out _).mono ?_
  rintro _ _ ⟨rfl, rfl⟩
  go_wp2_with fail
  refine (H2.out _).mono ?_
  rintro _ _ ⟨rfl, rfl⟩
  go_wp2_with fail
  go_ret
  exact ⟨rfl, HB1.out⟩
end Go.Proofs.YtfglfelcpmbmaaaGreatDoor
