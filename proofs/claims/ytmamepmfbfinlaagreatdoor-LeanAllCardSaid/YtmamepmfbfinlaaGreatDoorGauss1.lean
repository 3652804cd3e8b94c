/-
  The contracts of math.Floor, gauss.whole, gauss.May, gauss.rest, gauss.Mod, gauss.Add, gauss.Mul: what each answers of words that stand for whole numbers (or halves).
-/
import Derived.Test.YtmamepmfbfinlaaGreatDoorProg
import Derived.Test.YtmamepmfbfinlaaGreatDoorFlM
import Derived.WalkKit
import Derived.WalkSpells
import Derived.WalkLawsBesides
import Derived.Lib.Hide
import Derived.Deep.QuietTactic
import Derived.BigQuiet
namespace Go.Proofs.YtmamepmfbfinlaaGreatDoor
open Go.RowKit Go.Proofs.Flo

theorem archFloor_run (x : Nat) (hx : (Ieee.double.read x).isNaN = false) (w : World) :
    (callFunc 95 #[.float .f64 x]).run Tryz.prog w = .ok (.value (.float .f64 (Ieee.double.write ((Ieee.double.read x).integral .down)))) w := by
  rw [run_callFunc_extern (e := Extern.MathFloor.toIntegral "math.archFloor" .down) Tryz.func95 (by kernel_rfl) (by kernel_rfl) (by kernel_rfl) (by kernel_rfl)]
  have h : (Extern.MathFloor.toIntegral "math.archFloor" .down #[.float .f64 x]).run Tryz.prog w = .ok (.float .f64 (Ieee.double.write ((Ieee.double.read x).integral .down))) w := by
    unfold Extern.MathFloor.toIntegral
    show (match Ieee.double.read x with | .nan s t => _ | d => _ : Sem Value).run Tryz.prog w = _
    cases hd : Ieee.double.read x with
    | nan s t => rw [hd] at hx; cases hx
    | number s m p => rfl
    | infinity s => rfl
  rw [h]
  rfl

/-- The word of a word's floor. -/
def flr (x : Nat) : Nat := Ieee.double.write ((Ieee.double.read x).integral .down)

theorem floor_any (x : Nat) (hx : (Ieee.double.read x).isNaN = false) (w : World) :
    Calls Tryz.prog 82 #[.float .f64 x] w fun e w' => e = .returned (.float .f64 (flr x)) ∧ w = w' := by
  have hd := fun w => archFloor_run x hx w
  go_enter Tryz.func82, Tryz.ntmps82
  go_wp2
  go_ret
  exact ⟨rfl, rfl⟩

/-- '<=' and '==' of words. -/
def leW (x y : Nat) : Bool := FloatKind.f64.format.order x y == some .lt || FloatKind.f64.format.order x y == some .eq
def eqW (x y : Nat) : Bool := FloatKind.f64.format.order x y == some .eq

set_option maxHeartbeats 400000 in
theorem whole_any (x y lo hi : Nat) (hx : (Ieee.double.read x).isNaN = false) (hy : (Ieee.double.read y).isNaN = false) (w : World) :
    Calls Tryz.prog 68 #[.complex .f64 x y, .float .f64 lo, .float .f64 hi] w fun e w' => e = .returned (.bool (leW lo x && leW x hi && eqW (flr x) x && leW lo y && leW y hi && eqW (flr y) y)) ∧ w = w' := by
  cases h1 : leW lo x
  · unfold leW at h1
    go_enter Tryz.func68, Tryz.ntmps68
    go_wp2_with fail
    go_ret
    exact ⟨rfl, rfl⟩
  cases h2 : leW x hi
  · unfold leW at h1 h2
    go_enter Tryz.func68, Tryz.ntmps68
    go_wp2_with fail
    go_ret
    exact ⟨rfl, rfl⟩
  cases h3 : eqW (flr x) x
  · unfold leW at h1 h2
    unfold eqW at h3
    go_enter Tryz.func68, Tryz.ntmps68
    go_wp2_with fail
    refine (floor_any x hx _).mono ?_
    rintro e w' ⟨rfl, rfl⟩
    go_wp2_with fail
    go_ret
    exact ⟨rfl, rfl⟩
  cases h4 : leW lo y
  · unfold leW at h1 h2 h4
    unfold eqW at h3
    go_enter Tryz.func68, Tryz.ntmps68
    go_wp2_with fail
    refine (floor_any x hx _).mono ?_
    rintro e w' ⟨rfl, rfl⟩
    go_wp2_with fail
    go_ret
    exact ⟨rfl, rfl⟩
  cases h5 : leW y hi
  · unfold leW at h1 h2 h4 h5
    unfold eqW at h3
    go_enter Tryz.func68, Tryz.ntmps68
    go_wp2_with fail
    refine (floor_any x hx _).mono ?_
    rintro e w' ⟨rfl, rfl⟩
    go_wp2_with fail
    go_ret
    exact ⟨rfl, rfl⟩
  cases h6 : eqW (flr y) y
  all_goals
    unfold leW at h1 h2 h4 h5
    unfold eqW at h3 h6
    go_enter Tryz.func68, Tryz.ntmps68
    go_wp2_with fail
    refine (floor_any x hx _).mono ?_
    rintro e w' ⟨rfl, rfl⟩
    go_wp2_with fail
    refine (floor_any y hy _).mono ?_
    rintro e w' ⟨rfl, rfl⟩
    go_wp2_with fail
    go_ret
    exact ⟨rfl, rfl⟩

/-- A word that stands for 'n / 2 ^ k'. -/
def VW (k : Nat) (x : Nat) (n : Int) : Prop := V k (Ieee.double.read x) n

theorem VW.nan {k x : Nat} {n : Int} (h : VW k x n) : (Ieee.double.read x).isNaN = false := by
  obtain ⟨m, p, e, _⟩ := h
  rw [e]; rfl

theorem leW_of {k x y : Nat} {a b : Int} (h1 : VW k x a) (h2 : VW k y b) : leW x y = decide (a ≤ b) := le_of_V h1 h2
theorem eqW_of {k x y : Nat} {a b : Int} (h1 : VW k x a) (h2 : VW k y b) : eqW x y = decide (a = b) := eq_of_V h1 h2

theorem VW_fk (k : Nat) (n : Int) (hk : k ≤ 1000) (hn : n.natAbs < 2 ^ 53) : VW k (fk k n) n := read_fk k n hk hn

theorem VW_half {x : Nat} {n : Int} (h : VW 0 x n) : VW 1 x (2 * n) := V_half h

theorem eqW_flr_int (n : Int) (hn : n.natAbs < 2 ^ 53) : eqW (flr (fk 0 n)) (fk 0 n) = true := by
  have h : flr (fk 0 n) = fk 0 n := by
    have := floor_fk 0 n (by omega) hn (by simpa using hn)
    rw [show n / ((2 ^ 0 : Nat) : Int) = n from Int.ediv_one n] at this
    exact this
  rw [h, eqW_of (VW_fk 0 n (by omega) hn) (VW_fk 0 n (by omega) hn)]
  simp

theorem eqW_flr_half (n : Int) (hn : n.natAbs < 2 ^ 52) (h : n % 2 = 1) : eqW (flr (fk 1 n)) (fk 1 n) = false := by
  have hf : flr (fk 1 n) = fk 0 (n / 2) := by
    have := floor_fk 1 n (by omega) (by omega) (by show (n / ((2 : Nat) : Int)).natAbs < 2 ^ 53; omega)
    exact this
  rw [hf, eqW_of (VW_half (VW_fk 0 (n / 2) (by omega) (by omega))) (VW_fk 1 n (by omega) (by omega))]
  simp
  omega


/-- What gauss.May says of words. -/
def mayB (x y : Nat) : Bool := leW 0 x && leW x 4679237813814689792 && eqW (flr x) x && leW 0 y && leW y 4679237813814689792 && eqW (flr y) y

theorem may_any (x y : Nat) (hx : (Ieee.double.read x).isNaN = false) (hy : (Ieee.double.read y).isNaN = false) (w : World) :
    Calls Tryz.prog 51 #[.complex .f64 x y] w fun e w' => e = .returned (.bool (mayB x y)) ∧ w = w' := by
  go_enter Tryz.func51, Tryz.ntmps51
  go_wp2_with fail
  refine (whole_any x y _ _ hx hy _).mono ?_
  rintro e w' ⟨rfl, rfl⟩
  go_wp2_with fail
  go_ret
  exact ⟨rfl, rfl⟩

theorem fk_top : fk 0 65520 = 4679237813814689792 := by decide
theorem fk_prime : fk 0 65521 = 4679237951253643264 := by decide
theorem fk_reach : fk 0 1125899906842624 = 4832362400168542208 := by decide
theorem fk_unreach : fk 0 (-1125899906842624) = 14055734437023318016 := by decide

theorem mayB_int (a b : Int) (ha : a.natAbs < 2 ^ 53) (hb : b.natAbs < 2 ^ 53) : mayB (fk 0 a) (fk 0 b) = decide ((0 ≤ a ∧ a ≤ 65520) ∧ (0 ≤ b ∧ b ≤ 65520)) := by
  unfold mayB
  have h0 := VW_fk 0 0 (by omega) (by decide)
  have h1 := VW_fk 0 65520 (by omega) (by decide)
  rw [fk_zero] at h0
  rw [fk_top] at h1
  have va := VW_fk 0 a (by omega) ha
  have vb := VW_fk 0 b (by omega) hb
  rw [leW_of h0 va, leW_of va h1, leW_of h0 vb, leW_of vb h1, eqW_flr_int a ha, eqW_flr_int b hb]
  simp [and_assoc, Bool.and_assoc]

set_option maxHeartbeats 400000 in
theorem rest_any (a : Int) (ha : a.natAbs ≤ 2 ^ 50) (w : World) :
    Calls Tryz.prog 69 #[.float .f64 (fk 0 a)] w fun e w' => e = .returned (.float .f64 (fk 0 (a % 65521))) ∧ w = w' := by
  obtain ⟨q, hq, hf, hn⟩ := floor_div a ha
  rw [fk_prime] at hq
  have hm : Ieee.double.mul 4679237951253643264 (fk 0 (a / 65521)) = some (fk 0 (65521 * (a / 65521))) := by
    rw [← fk_prime]
    exact mul_fk 65521 (a / 65521) (by decide) (by omega) (by omega) ⟨fun h => by omega, fun h => by omega⟩
  have hs : Ieee.double.sub (fk 0 a) (fk 0 (65521 * (a / 65521))) = some (fk 0 (a % 65521)) := by
    have e : a % 65521 = a - 65521 * (a / 65521) := by omega
    rw [e]
    exact sub_fk 0 a (65521 * (a / 65521)) (by omega) (by omega) (by omega) (by omega)
  have k1 := fun t w => run_float_arith (P := Tryz.prog) w .quo t .f64 (fk 0 a) 4679237951253643264 q hq
  have k2 := fun t w => run_float_arith (P := Tryz.prog) w .mul t .f64 4679237951253643264 (fk 0 (a / 65521)) _ hm
  have k3 := fun t w => run_float_arith (P := Tryz.prog) w .sub t .f64 (fk 0 a) (fk 0 (65521 * (a / 65521))) _ hs
  clear hq hm hs
  have HF := Lib.hid hf
  clear hf
  go_enter Tryz.func69, Tryz.ntmps69
  go_wp2_with fail
  refine (floor_any q hn _).mono ?_
  rintro e w' ⟨rfl, rfl⟩
  rw [show flr q = fk 0 (a / 65521) from HF.out]
  go_wp2_with fail
  go_ret
  exact ⟨rfl, rfl⟩


/-- What gauss.Mod asks of words. -/
def reachB (x y : Nat) : Bool := leW 14055734437023318016 x && leW x 4832362400168542208 && eqW (flr x) x && leW 14055734437023318016 y && leW y 4832362400168542208 && eqW (flr y) y

theorem reachB_int (a b : Int) (ha : a.natAbs < 2 ^ 53) (hb : b.natAbs < 2 ^ 53) : reachB (fk 0 a) (fk 0 b) = decide ((-1125899906842624 ≤ a ∧ a ≤ 1125899906842624) ∧ (-1125899906842624 ≤ b ∧ b ≤ 1125899906842624)) := by
  unfold reachB
  have h0 := VW_fk 0 (-1125899906842624) (by omega) (by decide)
  have h1 := VW_fk 0 1125899906842624 (by omega) (by decide)
  rw [fk_unreach] at h0
  rw [fk_reach] at h1
  have va := VW_fk 0 a (by omega) ha
  have vb := VW_fk 0 b (by omega) hb
  rw [leW_of h0 va, leW_of va h1, leW_of h0 vb, leW_of vb h1, eqW_flr_int a ha, eqW_flr_int b hb]
  simp [and_assoc, Bool.and_assoc]

theorem mod_not (x y : Nat) (hx : (Ieee.double.read x).isNaN = false) (hy : (Ieee.double.read y).isNaN = false) (h : reachB x y = false) (w : World) :
    Calls Tryz.prog 52 #[.complex .f64 x y] w fun e w' => e = .returned (.complex .f64 0 0) ∧ w = w' := by
  go_enter Tryz.func52, Tryz.ntmps52
  go_wp2_with fail
  refine (whole_any x y _ _ hx hy _).mono ?_
  rintro e w' ⟨rfl, rfl⟩
  rw [show (leW 14055734437023318016 x && leW x 4832362400168542208 && eqW (flr x) x && leW 14055734437023318016 y && leW y 4832362400168542208 && eqW (flr y) y) = false from h]
  go_wp2_with fail
  go_ret
  exact ⟨rfl, rfl⟩

theorem mod_int (a b : Int) (ha : a.natAbs ≤ 2 ^ 50) (hb : b.natAbs ≤ 2 ^ 50) (w : World) :
    Calls Tryz.prog 52 #[.complex .f64 (fk 0 a) (fk 0 b)] w fun e w' => e = .returned (.complex .f64 (fk 0 (a % 65521)) (fk 0 (b % 65521))) ∧ w = w' := by
  have h : reachB (fk 0 a) (fk 0 b) = true := by
    rw [reachB_int a b (by omega) (by omega)]
    exact decide_eq_true ⟨⟨by omega, by omega⟩, ⟨by omega, by omega⟩⟩
  have va := VW_fk 0 a (by omega) (by omega)
  have vb := VW_fk 0 b (by omega) (by omega)
  have H := Lib.hid h
  clear h
  go_enter Tryz.func52, Tryz.ntmps52
  go_wp2_with fail
  refine (whole_any _ _ _ _ va.nan vb.nan _).mono ?_
  rintro e w' ⟨rfl, rfl⟩
  rw [show (leW 14055734437023318016 (fk 0 a) && leW (fk 0 a) 4832362400168542208 && eqW (flr (fk 0 a)) (fk 0 a) && leW 14055734437023318016 (fk 0 b) && leW (fk 0 b) 4832362400168542208 && eqW (flr (fk 0 b)) (fk 0 b)) = true from H.out]
  go_wp2_with fail
  refine (rest_any a ha _).mono ?_
  rintro e w' ⟨rfl, rfl⟩
  go_wp2_with fail
  refine (rest_any b hb _).mono ?_
  rintro e w' ⟨rfl, rfl⟩
  go_wp2_with fail
  go_ret
  exact ⟨rfl, rfl⟩

/-- A whole complex number. -/
def gz (a b : Int) : Value := .complex .f64 (fk 0 a) (fk 0 b)

theorem gz_zero : gz 0 0 = .complex .f64 0 0 := by unfold gz; rw [fk_zero]

/-- A part that may be. -/
def Pt (a : Int) : Prop := 0 ≤ a ∧ a ≤ 65520

theorem Pt.mod (a : Int) : Pt (a % 65521) := by unfold Pt; omega

theorem may_gz (a b : Int) (ha : Pt a) (hb : Pt b) (w : World) :
    Calls Tryz.prog 51 #[gz a b] w fun e w' => e = .returned (.bool true) ∧ w = w' := by
  unfold Pt at ha hb
  have va := VW_fk 0 a (by omega) (by omega)
  have vb := VW_fk 0 b (by omega) (by omega)
  refine (may_any (fk 0 a) (fk 0 b) va.nan vb.nan w).mono ?_
  rintro e w' ⟨rfl, rfl⟩
  rw [mayB_int a b (by omega) (by omega)]
  refine ⟨?_, rfl⟩
  rw [decide_eq_true ⟨ha, hb⟩]

set_option maxHeartbeats 400000 in
theorem add_gz (a b c d : Int) (ha : Pt a) (hb : Pt b) (hc : Pt c) (hd : Pt d) (w : World) :
    Calls Tryz.prog 70 #[gz a b, gz c d] w fun e w' => e = .returned (gz ((a + c) % 65521) ((b + d) % 65521)) ∧ w = w' := by
  unfold Pt at ha hb hc hd
  have h1 : cSumBits .add .f64 (fk 0 a) (fk 0 b) (fk 0 c) (fk 0 d) = some (fk 0 (a + c), fk 0 (b + d)) := by
    unfold cSumBits
    rw [show floatBits .add .f64 (fk 0 a) (fk 0 c) = some (fk 0 (a + c)) from add_fk 0 a c (by omega) (by omega) (by omega) (by omega),
      show floatBits .add .f64 (fk 0 b) (fk 0 d) = some (fk 0 (b + d)) from add_fk 0 b d (by omega) (by omega) (by omega) (by omega)]
    rfl
  have k1 := fun t w => run_complex_sum (P := Tryz.prog) w .add (Or.inl rfl) t .f64 _ _ _ _ _ _ h1
  clear h1
  have m1 := may_gz a b ha hb
  have m2 := may_gz c d hc hd
  unfold gz at m1 m2 ⊢
  have M1 := Lib.hid m1
  have M2 := Lib.hid m2
  clear m1 m2
  go_enter Tryz.func70, Tryz.ntmps70
  go_wp2_with fail
  refine (M1.out _).mono ?_
  rintro e w' ⟨rfl, rfl⟩
  go_wp2_with fail
  refine (M2.out _).mono ?_
  rintro e w' ⟨rfl, rfl⟩
  go_wp2_with fail
  refine (mod_int (a + c) (b + d) (by omega) (by omega) _).mono ?_
  rintro e w' ⟨rfl, rfl⟩
  go_wp2_with fail
  go_ret
  exact ⟨rfl, rfl⟩

theorem prod_bound {a b : Int} (ha : Pt a) (hb : Pt b) : 0 ≤ a * b ∧ a * b ≤ 4292870400 := by
  unfold Pt at ha hb
  refine ⟨Int.mul_nonneg ha.1 hb.1, ?_⟩
  have := Int.mul_le_mul ha.2 hb.2 hb.1 (by omega)
  omega

theorem mul_pt {a b : Int} (ha : Pt a) (hb : Pt b) : floatBits .mul .f64 (fk 0 a) (fk 0 b) = some (fk 0 (a * b)) := by
  have h := prod_bound ha hb
  unfold Pt at ha hb
  exact mul_fk a b (by omega) (by omega) (by omega) ⟨fun _ => by omega, fun _ => by omega⟩

set_option maxHeartbeats 400000 in
theorem mul_gz (a b c d : Int) (ha : Pt a) (hb : Pt b) (hc : Pt c) (hd : Pt d) (w : World) :
    Calls Tryz.prog 32 #[gz a b, gz c d] w fun e w' => e = .returned (gz ((a * c - b * d) % 65521) ((a * d + b * c) % 65521)) ∧ w = w' := by
  have b1 := prod_bound ha hc
  have b2 := prod_bound hb hd
  have b3 := prod_bound ha hd
  have b4 := prod_bound hb hc
  have h1 : cMulBits (fk 0 a) (fk 0 b) (fk 0 c) (fk 0 d) = some (fk 0 (a * c - b * d), fk 0 (a * d + b * c)) := by
    unfold cMulBits
    rw [mul_pt ha hc, mul_pt hb hd, mul_pt ha hd, mul_pt hb hc]
    show (Option.bind (floatBits .sub .f64 (fk 0 (a * c)) (fk 0 (b * d))) fun re => Option.bind (floatBits .add .f64 (fk 0 (a * d)) (fk 0 (b * c))) fun im => some (re, im)) = _
    rw [show floatBits .sub .f64 (fk 0 (a * c)) (fk 0 (b * d)) = some (fk 0 (a * c - b * d)) from sub_fk 0 _ _ (by omega) (by omega) (by omega) (by omega),
      show floatBits .add .f64 (fk 0 (a * d)) (fk 0 (b * c)) = some (fk 0 (a * d + b * c)) from add_fk 0 _ _ (by omega) (by omega) (by omega) (by omega)]
    rfl
  have k1 := fun t w => run_complex_mul (P := Tryz.prog) w t _ _ _ _ _ _ h1
  clear h1
  have m1 := may_gz a b ha hb
  have m2 := may_gz c d hc hd
  have m3 := mod_int (a * c - b * d) (a * d + b * c) (by omega) (by omega)
  clear b1 b2 b3 b4
  generalize a * c - b * d = P at *
  generalize a * d + b * c = Q at *
  unfold gz at m1 m2 ⊢
  have M1 := Lib.hid m1
  have M2 := Lib.hid m2
  have M3 := Lib.hid m3
  clear m1 m2 m3
  go_enter Tryz.func32, Tryz.ntmps32
  go_wp2_with fail
  refine (M1.out _).mono ?_
  rintro e w' ⟨rfl, rfl⟩
  go_wp2_with fail
  refine (M2.out _).mono ?_
  rintro e w' ⟨rfl, rfl⟩
  go_wp2_with fail
  refine (M3.out _).mono ?_
  rintro e w' ⟨rfl, rfl⟩
  go_wp2_with fail
  go_ret
  exact ⟨rfl, rfl⟩

/-- What may not be comes to nought. -/
theorem may_not (x y : Nat) (hx : (Ieee.double.read x).isNaN = false) (hy : (Ieee.double.read y).isNaN = false) (h : mayB x y = false) (w : World) :
    Calls Tryz.prog 51 #[.complex .f64 x y] w fun e w' => e = .returned (.bool false) ∧ w = w' := by
  refine (may_any x y hx hy w).mono ?_
  rintro e w' ⟨rfl, rfl⟩
  rw [h]
  exact ⟨rfl, rfl⟩

theorem add_not2 (a b : Int) (x y : Nat) (ha : Pt a) (hb : Pt b) (hx : (Ieee.double.read x).isNaN = false) (hy : (Ieee.double.read y).isNaN = false) (h : mayB x y = false) (w : World) :
    Calls Tryz.prog 70 #[gz a b, .complex .f64 x y] w fun e w' => e = .returned (.complex .f64 0 0) ∧ w = w' := by
  have m1 := may_gz a b ha hb
  unfold gz at m1 ⊢
  have M1 := Lib.hid m1
  have M2 := Lib.hid (may_not x y hx hy h)
  clear m1 h
  go_enter Tryz.func70, Tryz.ntmps70
  go_wp2_with fail
  refine (M1.out _).mono ?_
  rintro e w' ⟨rfl, rfl⟩
  go_wp2_with fail
  refine (M2.out _).mono ?_
  rintro e w' ⟨rfl, rfl⟩
  go_wp2_with fail
  go_ret
  exact ⟨rfl, rfl⟩

theorem mul_not1 (x y u v : Nat) (hx : (Ieee.double.read x).isNaN = false) (hy : (Ieee.double.read y).isNaN = false) (h : mayB x y = false) (w : World) :
    Calls Tryz.prog 32 #[.complex .f64 x y, .complex .f64 u v] w fun e w' => e = .returned (.complex .f64 0 0) ∧ w = w' := by
  have M2 := Lib.hid (may_not x y hx hy h)
  clear h
  go_enter Tryz.func32, Tryz.ntmps32
  go_wp2_with fail
  refine (M2.out _).mono ?_
  rintro e w' ⟨rfl, rfl⟩
  go_wp2_with fail
  go_ret
  exact ⟨rfl, rfl⟩

end Go.Proofs.YtmamepmfbfinlaaGreatDoor
