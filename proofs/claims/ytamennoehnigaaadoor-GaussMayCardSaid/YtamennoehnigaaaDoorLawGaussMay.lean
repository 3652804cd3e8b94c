import Derived.Test.YtamennoehnigaaaDoorLaw1
namespace Go.Proofs.YtamennoehnigaaaDoor
open Go.RowKit Go.Proofs.Flo Go.Proofs.Cpl

theorem i64_and3 (n : Int) : bits .and .i64 n 3 = n % 4 := by
  have h3 : (BitVec.ofInt 64 3).toNat = 2 ^ 2 - 1 := by decide
  have key : (BitVec.ofInt 64 n &&& BitVec.ofInt 64 3).toNat = (n % ((2 ^ 64 : Nat) : Int)).toNat % 2 ^ 2 := by
    rw [BitVec.toNat_and, BitVec.toNat_ofInt, h3, Nat.and_two_pow_sub_one_eq_mod]
  show IntKind.i64.wrap ((BitVec.ofInt 64 n &&& BitVec.ofInt 64 3).toNat : Nat) = n % 4
  rw [key, IntKind.wrap_i64]
  omega

theorem add_not_p (p : Int × Int) (x y : Nat) (hp : Ok p) (hx : (Ieee.double.read x).isNaN = false) (hy : (Ieee.double.read y).isNaN = false) (h : mayB x y = false) (w : World) :
    Calls Tryd.prog 24 #[.complex .f64 (fk 0 p.1) (fk 0 p.2), .complex .f64 x y] w fun e w' => e = .returned (.complex .f64 0 0) ∧ w = w' :=
  add_not2 p.1 p.2 x y hp.1 hp.2 hx hy h w

set_option maxRecDepth 100000 in
set_option maxHeartbeats 1000000 in
theorem gaussMay_0 (a b part : Int) (w : World) (hbg : BegunTrue) (h : LibAt w) (hk : bits BinOp.and IntKind.i64 part 3 = 0) :
    Calls Tryd.prog 6 #[.int .i64 a, .int .i64 b, .int .i64 part] w fun e w' => e = .returned (.bool true) ∧ Below w.heap.size w w' := by
  have HB := Lib.hid (hbg w h)
  clear hbg h
  have hx : (Ieee.double.read 4679237951253643264).isNaN = false := by decide
  have hy : (Ieee.double.read 0).isNaN = false := by decide
  have hm : mayB 4679237951253643264 0 = false := by decide +kernel
  have C1 := Lib.hid (may_not 4679237951253643264 0 hx hy hm)
  have C2 := Lib.hid (fun p hp w => add_not_p p 4679237951253643264 0 hp hx hy hm w)
  have C3 := Lib.hid (fun x y w => mul_not1 4679237951253643264 0 x y hx hy hm w)
  have C4 := Lib.hid (pow_not 4679237951253643264 0 1 (by decide) hx hy hm)
  have C5 := Lib.hid (fun v w => on_not 4679237951253643264 0 v hx hy hm w)
  have C6 := Lib.hid (gtext_not 4679237951253643264 0 hx hy hm)
  clear hx hy hm
  have s7 : (FloatKind.f64.format.order 0 0 == some .eq) = true := by decide
  go_enter Tryd.func6, Tryd.ntmps6
  go_wp2_with fail
  refine HB.out.mono ?_
  rintro _ w0 ⟨rfl, hb0⟩
  go_wp2_with fail
  refine (pair_p a b _).mono ?_
  rintro _ w1 ⟨rfl, hb1⟩
  have hp := ok_red (a, b)
  generalize red (a, b) = p at *
  go_wp2_with fail
  refine (z_p p hp _).mono ?_
  rintro _ w2 ⟨rfl, hb2⟩
  go_wp2_with fail
  refine (C1.out _).mono ?_
  rintro _ w' ⟨rfl, rfl⟩
  go_wp2_with fail
  refine (C2.out p hp _).mono ?_
  rintro _ w' ⟨rfl, rfl⟩
  go_wp2_with fail
  refine (C3.out _ _ _).mono ?_
  rintro _ w' ⟨rfl, rfl⟩
  go_wp2_with fail
  refine (C4.out _).mono ?_
  rintro _ w' ⟨rfl, rfl⟩
  go_wp2_with fail
  refine (pow_neg _ _ (-1) (by decide) _).mono ?_
  rintro _ w' ⟨rfl, rfl⟩
  go_wp2_with fail
  refine (C5.out _ _).mono ?_
  rintro _ w' ⟨rfl, rfl⟩
  go_wp2_with fail
  refine (C6.out _).mono ?_
  rintro _ w' ⟨rfl, rfl⟩
  go_wp2_with fail
  go_ret
  exact ⟨rfl, ((hb0.trans (hb1.mono (by have := hb0.size; omega))).trans (hb2.mono (by have := hb0.size; have := hb1.size; omega))).alloc (by have := hb0.size; have := hb1.size; have := hb2.size; omega) _⟩

set_option maxRecDepth 100000 in
set_option maxHeartbeats 1000000 in
theorem gaussMay_1 (a b part : Int) (w : World) (hbg : BegunTrue) (h : LibAt w) (hk : bits BinOp.and IntKind.i64 part 3 = 1) :
    Calls Tryd.prog 6 #[.int .i64 a, .int .i64 b, .int .i64 part] w fun e w' => e = .returned (.bool true) ∧ Below w.heap.size w w' := by
  have HB := Lib.hid (hbg w h)
  clear hbg h
  have hx : (Ieee.double.read 0).isNaN = false := by decide
  have hy : (Ieee.double.read 13830554455654793216).isNaN = false := by decide
  have hm : mayB 0 13830554455654793216 = false := by decide +kernel
  have C1 := Lib.hid (may_not 0 13830554455654793216 hx hy hm)
  have C2 := Lib.hid (fun p hp w => add_not_p p 0 13830554455654793216 hp hx hy hm w)
  have C3 := Lib.hid (fun x y w => mul_not1 0 13830554455654793216 x y hx hy hm w)
  have C4 := Lib.hid (pow_not 0 13830554455654793216 1 (by decide) hx hy hm)
  have C5 := Lib.hid (fun v w => on_not 0 13830554455654793216 v hx hy hm w)
  have C6 := Lib.hid (gtext_not 0 13830554455654793216 hx hy hm)
  clear hx hy hm
  have s7 : (FloatKind.f64.format.order 0 0 == some .eq) = true := by decide
  go_enter Tryd.func6, Tryd.ntmps6
  go_wp2_with fail
  refine HB.out.mono ?_
  rintro _ w0 ⟨rfl, hb0⟩
  go_wp2_with fail
  refine (pair_p a b _).mono ?_
  rintro _ w1 ⟨rfl, hb1⟩
  have hp := ok_red (a, b)
  generalize red (a, b) = p at *
  go_wp2_with fail
  refine (z_p p hp _).mono ?_
  rintro _ w2 ⟨rfl, hb2⟩
  go_wp2_with fail
  refine (C1.out _).mono ?_
  rintro _ w' ⟨rfl, rfl⟩
  go_wp2_with fail
  refine (C2.out p hp _).mono ?_
  rintro _ w' ⟨rfl, rfl⟩
  go_wp2_with fail
  refine (C3.out _ _ _).mono ?_
  rintro _ w' ⟨rfl, rfl⟩
  go_wp2_with fail
  refine (C4.out _).mono ?_
  rintro _ w' ⟨rfl, rfl⟩
  go_wp2_with fail
  refine (pow_neg _ _ (-1) (by decide) _).mono ?_
  rintro _ w' ⟨rfl, rfl⟩
  go_wp2_with fail
  refine (C5.out _ _).mono ?_
  rintro _ w' ⟨rfl, rfl⟩
  go_wp2_with fail
  refine (C6.out _).mono ?_
  rintro _ w' ⟨rfl, rfl⟩
  go_wp2_with fail
  go_ret
  exact ⟨rfl, ((hb0.trans (hb1.mono (by have := hb0.size; omega))).trans (hb2.mono (by have := hb0.size; have := hb1.size; omega))).alloc (by have := hb0.size; have := hb1.size; have := hb2.size; omega) _⟩

set_option maxRecDepth 100000 in
set_option maxHeartbeats 1000000 in
theorem gaussMay_2 (a b part : Int) (w : World) (hbg : BegunTrue) (h : LibAt w) (hk : bits BinOp.and IntKind.i64 part 3 = 2) :
    Calls Tryd.prog 6 #[.int .i64 a, .int .i64 b, .int .i64 part] w fun e w' => e = .returned (.bool true) ∧ Below w.heap.size w w' := by
  have HB := Lib.hid (hbg w h)
  clear hbg h
  have hx : (Ieee.double.read 4602678819172646912).isNaN = false := by decide
  have hy : (Ieee.double.read 0).isNaN = false := by decide
  have hm : mayB 4602678819172646912 0 = false := by decide +kernel
  have C1 := Lib.hid (may_not 4602678819172646912 0 hx hy hm)
  have C2 := Lib.hid (fun p hp w => add_not_p p 4602678819172646912 0 hp hx hy hm w)
  have C3 := Lib.hid (fun x y w => mul_not1 4602678819172646912 0 x y hx hy hm w)
  have C4 := Lib.hid (pow_not 4602678819172646912 0 1 (by decide) hx hy hm)
  have C5 := Lib.hid (fun v w => on_not 4602678819172646912 0 v hx hy hm w)
  have C6 := Lib.hid (gtext_not 4602678819172646912 0 hx hy hm)
  clear hx hy hm
  have s7 : (FloatKind.f64.format.order 0 0 == some .eq) = true := by decide
  go_enter Tryd.func6, Tryd.ntmps6
  go_wp2_with fail
  refine HB.out.mono ?_
  rintro _ w0 ⟨rfl, hb0⟩
  go_wp2_with fail
  refine (pair_p a b _).mono ?_
  rintro _ w1 ⟨rfl, hb1⟩
  have hp := ok_red (a, b)
  generalize red (a, b) = p at *
  go_wp2_with fail
  refine (z_p p hp _).mono ?_
  rintro _ w2 ⟨rfl, hb2⟩
  go_wp2_with fail
  refine (C1.out _).mono ?_
  rintro _ w' ⟨rfl, rfl⟩
  go_wp2_with fail
  refine (C2.out p hp _).mono ?_
  rintro _ w' ⟨rfl, rfl⟩
  go_wp2_with fail
  refine (C3.out _ _ _).mono ?_
  rintro _ w' ⟨rfl, rfl⟩
  go_wp2_with fail
  refine (C4.out _).mono ?_
  rintro _ w' ⟨rfl, rfl⟩
  go_wp2_with fail
  refine (pow_neg _ _ (-1) (by decide) _).mono ?_
  rintro _ w' ⟨rfl, rfl⟩
  go_wp2_with fail
  refine (C5.out _ _).mono ?_
  rintro _ w' ⟨rfl, rfl⟩
  go_wp2_with fail
  refine (C6.out _).mono ?_
  rintro _ w' ⟨rfl, rfl⟩
  go_wp2_with fail
  go_ret
  exact ⟨rfl, ((hb0.trans (hb1.mono (by have := hb0.size; omega))).trans (hb2.mono (by have := hb0.size; have := hb1.size; omega))).alloc (by have := hb0.size; have := hb1.size; have := hb2.size; omega) _⟩

set_option maxRecDepth 100000 in
set_option maxHeartbeats 1000000 in
theorem gaussMay_3 (a b part : Int) (w : World) (hbg : BegunTrue) (h : LibAt w) (hk : bits BinOp.and IntKind.i64 part 3 = 3) :
    Calls Tryd.prog 6 #[.int .i64 a, .int .i64 b, .int .i64 part] w fun e w' => e = .returned (.bool true) ∧ Below w.heap.size w w' := by
  have HB := Lib.hid (hbg w h)
  clear hbg h
  have hx : (Ieee.double.read 9094988921128908188).isNaN = false := by decide
  have hy : (Ieee.double.read 4613937818241073152).isNaN = false := by decide
  have hm : mayB 9094988921128908188 4613937818241073152 = false := by decide +kernel
  have C1 := Lib.hid (may_not 9094988921128908188 4613937818241073152 hx hy hm)
  have C2 := Lib.hid (fun p hp w => add_not_p p 9094988921128908188 4613937818241073152 hp hx hy hm w)
  have C3 := Lib.hid (fun x y w => mul_not1 9094988921128908188 4613937818241073152 x y hx hy hm w)
  have C4 := Lib.hid (pow_not 9094988921128908188 4613937818241073152 1 (by decide) hx hy hm)
  have C5 := Lib.hid (fun v w => on_not 9094988921128908188 4613937818241073152 v hx hy hm w)
  have C6 := Lib.hid (gtext_not 9094988921128908188 4613937818241073152 hx hy hm)
  clear hx hy hm
  have s7 : (FloatKind.f64.format.order 0 0 == some .eq) = true := by decide
  go_enter Tryd.func6, Tryd.ntmps6
  go_wp2_with fail
  refine HB.out.mono ?_
  rintro _ w0 ⟨rfl, hb0⟩
  go_wp2_with fail
  refine (pair_p a b _).mono ?_
  rintro _ w1 ⟨rfl, hb1⟩
  have hp := ok_red (a, b)
  generalize red (a, b) = p at *
  go_wp2_with fail
  refine (z_p p hp _).mono ?_
  rintro _ w2 ⟨rfl, hb2⟩
  go_wp2_with fail
  refine (C1.out _).mono ?_
  rintro _ w' ⟨rfl, rfl⟩
  go_wp2_with fail
  refine (C2.out p hp _).mono ?_
  rintro _ w' ⟨rfl, rfl⟩
  go_wp2_with fail
  refine (C3.out _ _ _).mono ?_
  rintro _ w' ⟨rfl, rfl⟩
  go_wp2_with fail
  refine (C4.out _).mono ?_
  rintro _ w' ⟨rfl, rfl⟩
  go_wp2_with fail
  refine (pow_neg _ _ (-1) (by decide) _).mono ?_
  rintro _ w' ⟨rfl, rfl⟩
  go_wp2_with fail
  refine (C5.out _ _).mono ?_
  rintro _ w' ⟨rfl, rfl⟩
  go_wp2_with fail
  refine (C6.out _).mono ?_
  rintro _ w' ⟨rfl, rfl⟩
  go_wp2_with fail
  go_ret
  exact ⟨rfl, ((hb0.trans (hb1.mono (by have := hb0.size; omega))).trans (hb2.mono (by have := hb0.size; have := hb1.size; omega))).alloc (by have := hb0.size; have := hb1.size; have := hb2.size; omega) _⟩

theorem gaussMay_walk (a b part : Int) (w : World) (hbg : BegunTrue) (h : LibAt w) :
    Calls Tryd.prog 6 #[.int .i64 a, .int .i64 b, .int .i64 part] w fun e w' => e = .returned (.bool true) ∧ Below w.heap.size w w' := by
  have hk := i64_and3 part
  have hc : part % 4 = 0 ∨ part % 4 = 1 ∨ part % 4 = 2 ∨ part % 4 = 3 := by omega
  rcases hc with hc | hc | hc | hc
  · exact gaussMay_0 a b part w hbg h (hk.trans hc)
  · exact gaussMay_1 a b part w hbg h (hk.trans hc)
  · exact gaussMay_2 a b part w hbg h (hk.trans hc)
  · exact gaussMay_3 a b part w hbg h (hk.trans hc)

end Go.Proofs.YtamennoehnigaaaDoor
