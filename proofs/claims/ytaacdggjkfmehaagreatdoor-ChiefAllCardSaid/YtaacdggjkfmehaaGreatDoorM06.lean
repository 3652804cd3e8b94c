/-
  Contracts of the program, and what they rest on.
-/
import Derived.Test.YtaacdggjkfmehaaGreatDoorProg
import Derived.Test.YtaacdggjkfmehaaGreatDoorM05
import Derived.WalkKit
import Derived.WalkSpells
import Derived.WalkLawsBesides
import Derived.Lib.Hide
import Derived.Deep.QuietTactic
import Derived.BigQuiet
import Derived.LoopTactic
import Derived.Shelf.Strconv.Lower
import Derived.Lib.Strings
import Derived.Lib.Walk
import Derived.Lib.ConvBytes
import Derived.Lib.AtoiAllMem
import Derived.Laws.Strings3
import Derived.Laws.Closers25
import Derived.Laws.Closers25b
import Derived.BigCall
import Derived.BigGuard
namespace Go.Proofs.YtaacdggjkfmehaaGreatDoor
open Go.RowKit Go.Proofs.Flo
theorem archFloor_run (x : Nat) (hx : (Ieee.double.read x).isNaN = false) (w : World) :
    (callFunc 156 #[.float .f64 x]).run Tryz.prog w = .ok (.value (.float .f64 (Ieee.double.write ((Ieee.double.read x).integral .down)))) w := by
  rw [run_callFunc_extern (e := Extern.MathFloor.toIntegral "math.archFloor" .down) Tryz.func156 (by kernel_rfl) (by kernel_rfl) (by kernel_rfl) (by kernel_rfl)]
  have h : (Extern.MathFloor.toIntegral "math.archFloor" .down #[.float .f64 x]).run Tryz.prog w = .ok (.float .f64 (Ieee.double.write ((Ieee.double.read x).integral .down))) w := by
    unfold Extern.MathFloor.toIntegral
    show (match Ieee.double.read x with | .nan s t => _ | d => _ : Sem Value).run Tryz.prog w = _
    cases hd : Ieee.double.read x with
    | nan s t => rw [hd] at hx; cases hx
    | number s m p => rfl
    | infinity s => rfl
  rw [h]
  rfl
def flr (x : Nat) : Nat := Ieee.double.write ((Ieee.double.read x).integral .down)
theorem floor_any (x : Nat) (hx : (Ieee.double.read x).isNaN = false) (w : World) :
    Calls Tryz.prog 146 #[.float .f64 x] w fun e w' => e = .returned (.float .f64 (flr x)) ∧ w = w' := by
  have hd := fun w => archFloor_run x hx w
  go_enter Tryz.func146, Tryz.ntmps146
  go_wp2
  go_ret
  exact ⟨rfl, rfl⟩
def leW (x y : Nat) : Bool := FloatKind.f64.format.order x y == some .lt || FloatKind.f64.format.order x y == some .eq
def eqW (x y : Nat) : Bool := FloatKind.f64.format.order x y == some .eq
set_option maxHeartbeats 400000 in
theorem whole_any (x y lo hi : Nat) (hx : (Ieee.double.read x).isNaN = false) (hy : (Ieee.double.read y).isNaN = false) (w : World) :
    Calls Tryz.prog 130 #[.complex .f64 x y, .float .f64 lo, .float .f64 hi] w fun e w' => e = .returned (.bool (leW lo x && leW x hi && eqW (flr x) x && leW lo y && leW y hi && eqW (flr y) y)) ∧ w = w' := by
  cases h1 : leW lo x
  · unfold leW at h1
    go_enter Tryz.func130, Tryz.ntmps130
    go_wp2_with fail
    go_ret
    exact ⟨rfl, rfl⟩
  cases h2 : leW x hi
  · unfold leW at h1 h2
    go_enter Tryz.func130, Tryz.ntmps130
    go_wp2_with fail
    go_ret
    exact ⟨rfl, rfl⟩
  cases h3 : eqW (flr x) x
  · unfold leW at h1 h2
    unfold eqW at h3
    go_enter Tryz.func130, Tryz.ntmps130
    go_wp2_with fail
    refine (floor_any x hx _).mono ?_
    rintro e w' ⟨rfl, rfl⟩
    go_wp2_with fail
    go_ret
    exact ⟨rfl, rfl⟩
  cases h4 : leW lo y
  · unfold leW at h1 h2 h4
    unfold eqW at h3
    go_enter Tryz.func130, Tryz.ntmps130
    go_wp2_with fail
    refine (floor_any x hx _).mono ?_
    rintro e w' ⟨rfl, rfl⟩
    go_wp2_with fail
    go_ret
    exact ⟨rfl, rfl⟩
  cases h5 : leW y hi
  · unfold leW at h1 h2 h4 h5
    unfold eqW at h3
    go_enter Tryz.func130, Tryz.ntmps130
    go_wp2_with fail
    refine (floor_any x hx _).mono ?_
    rintro e w' ⟨rfl, rfl⟩
    go_wp2_with fail
    go_ret
    exact ⟨rfl, rfl⟩
  cases h6 : eqW (flr y) y
  all_goals
    unfold leW at h1 h2 h4 h5
    unfold eqW at h3 h6
    go_enter Tryz.func130, Tryz.ntmps130
    go_wp2_with fail
    refine (floor_any x hx _).mono ?_
    rintro e w' ⟨rfl, rfl⟩
    go_wp2_with fail
    refine (floor_any y hy _).mono ?_
    rintro e w' ⟨rfl, rfl⟩
    go_wp2_with fail
    go_ret
    exact ⟨rfl, rfl⟩
def VW (k : Nat) (x : Nat) (n : Int) : Prop := V k (Ieee.double.read x) n
theorem VW.nan {k x : Nat} {n : Int} (h : VW k x n) : (Ieee.double.read x).isNaN = false := by
  obtain ⟨m, p, e, _⟩ := h
  rw [e]; rfl
theorem leW_of {k x y : Nat} {a b : Int} (h1 : VW k x a) (h2 : VW k y b) : leW x y = decide (a ≤ b) := le_of_V h1 h2
theorem eqW_of {k x y : Nat} {a b : Int} (h1 : VW k x a) (h2 : VW k y b) : eqW x y = decide (a = b) := eq_of_V h1 h2
theorem VW_fk (k : Nat) (n : Int) (hk : k ≤ 1000) (hn : n.natAbs < 2 ^ 53) : VW k (fk k n) n := read_fk k n hk hn
theorem eqW_flr_int (n : Int) (hn : n.natAbs < 2 ^ 53) : eqW (flr (fk 0 n)) (fk 0 n) = true := by
  have h : flr (fk 0 n) = fk 0 n := by
    have := floor_fk 0 n (by omega) hn (by simpa using hn)
    rw [show n / ((2 ^ 0 : Nat) : Int) = n from Int.ediv_one n] at this
    exact this
  rw [h, eqW_of (VW_fk 0 n (by omega) hn) (VW_fk 0 n (by omega) hn)]
  simp
def mayB (x y : Nat) : Bool := leW 0 x && leW x 4679237813814689792 && eqW (flr x) x && leW 0 y && leW y 4679237813814689792 && eqW (flr y) y
theorem may_any (x y : Nat) (hx : (Ieee.double.read x).isNaN = false) (hy : (Ieee.double.read y).isNaN = false) (w : World) :
    Calls Tryz.prog 119 #[.complex .f64 x y] w fun e w' => e = .returned (.bool (mayB x y)) ∧ w = w' := by
  go_enter Tryz.func119, Tryz.ntmps119
  go_wp2_with fail
  refine (whole_any x y _ _ hx hy _).mono ?_
  rintro e w' ⟨rfl, rfl⟩
  go_wp2_with fail
  go_ret
  exact ⟨rfl, rfl⟩
theorem fk_top : fk 0 65520 = 4679237813814689792 := by decide
theorem fk_prime : fk 0 65521 = 4679237951253643264 := by decide
theorem fk_reach : fk 0 1125899906842624 = 4832362400168542208 := by decide
theorem fk_unreach : fk 0 (-1125899906842624) = 14055734437023318016 := by decide
theorem mayB_int (a b : Int) (ha : a.natAbs < 2 ^ 53) (hb : b.natAbs < 2 ^ 53) : mayB (fk 0 a) (fk 0 b) = decide ((0 ≤ a ∧ a ≤ 65520) ∧ (0 ≤ b ∧ b ≤ 65520)) := by
  unfold mayB
  have h0 := VW_fk 0 0 (by omega) (by decide)
  have h1 := VW_fk 0 65520 (by omega) (by decide)
  rw [fk_zero] at h0
  rw [fk_top] at h1
  have va := VW_fk 0 a (by omega) ha
  have vb := VW_fk 0 b (by omega) hb
  rw [leW_of h0 va, leW_of va h1, leW_of h0 vb, leW_of vb h1, eqW_flr_int a ha, eqW_flr_int b hb]
  simp [and_assoc, Bool.and_assoc]
set_option maxHeartbeats 400000 in
theorem rest_any (a : Int) (ha : a.natAbs ≤ 2 ^ 50) (w : World) :
    Calls Tryz.prog 158 #[.float .f64 (fk 0 a)] w fun e w' => e = .returned (.float .f64 (fk 0 (a % 65521))) ∧ w = w' := by
  obtain ⟨q, hq, hf, hn⟩ := floor_div a ha
  rw [fk_prime] at hq
  have hm : Ieee.double.mul 4679237951253643264 (fk 0 (a / 65521)) = some (fk 0 (65521 * (a / 65521))) := by
    rw [← fk_prime]
    exact mul_fk 65521 (a / 65521) (by decide) (by omega) (by omega) ⟨fun h => by omega, fun h => by omega⟩
  have hs : Ieee.double.sub (fk 0 a) (fk 0 (65521 * (a / 65521))) = some (fk 0 (a % 65521)) := by
    have e : a % 65521 = a - 65521 * (a / 65521) := by omega
    rw [e]
    exact sub_fk 0 a (65521 * (a / 65521)) (by omega) (by omega) (by omega) (by omega)
  have k1 := fun t w => run_float_arith (P := Tryz.prog) w .quo t .f64 (fk 0 a) 4679237951253643264 q hq
  have k2 := fun t w => run_float_arith (P := Tryz.prog) w .mul t .f64 4679237951253643264 (fk 0 (a / 65521)) _ hm
  have k3 := fun t w => run_float_arith (P := Tryz.prog) w .sub t .f64 (fk 0 a) (fk 0 (65521 * (a / 65521))) _ hs
  clear hq hm hs
  have HF := Lib.hid hf
  clear hf
  go_enter Tryz.func158, Tryz.ntmps158
  go_wp2_with fail
  refine (floor_any q hn _).mono ?_
  rintro e w' ⟨rfl, rfl⟩
  rw [show flr q = fk 0 (a / 65521) from HF.out]
  go_wp2_with fail
  go_ret
  exact ⟨rfl, rfl⟩
def reachB (x y : Nat) : Bool := leW 14055734437023318016 x && leW x 4832362400168542208 && eqW (flr x) x && leW 14055734437023318016 y && leW y 4832362400168542208 && eqW (flr y) y
theorem reachB_int (a b : Int) (ha : a.natAbs < 2 ^ 53) (hb : b.natAbs < 2 ^ 53) : reachB (fk 0 a) (fk 0 b) = decide ((-1125899906842624 ≤ a ∧ a ≤ 1125899906842624) ∧ (-1125899906842624 ≤ b ∧ b ≤ 1125899906842624)) := by
  unfold reachB
  have h0 := VW_fk 0 (-1125899906842624) (by omega) (by decide)
  have h1 := VW_fk 0 1125899906842624 (by omega) (by decide)
  rw [fk_unreach] at h0
  rw [fk_reach] at h1
  have va := VW_fk 0 a (by omega) ha
  have vb := VW_fk 0 b (by omega) hb
  rw [leW_of h0 va, leW_of va h1, leW_of h0 vb, leW_of vb h1, eqW_flr_int a ha, eqW_flr_int b hb]
  simp [and_assoc, Bool.and_assoc]
theorem mod_int (a b : Int) (ha : a.natAbs ≤ 2 ^ 50) (hb : b.natAbs ≤ 2 ^ 50) (w : World) :
    Calls Tryz.prog 147 #[.complex .f64 (fk 0 a) (fk 0 b)] w fun e w' => e = .returned (.complex .f64 (fk 0 (a % 65521)) (fk 0 (b % 65521))) ∧ w = w' := by
  have h : reachB (fk 0 a) (fk 0 b) = true := by
    rw [reachB_int a b (by omega) (by omega)]
    exact decide_eq_true ⟨⟨by omega, by omega⟩, ⟨by omega, by omega⟩⟩
  have va := VW_fk 0 a (by omega) (by omega)
  have vb := VW_fk 0 b (by omega) (by omega)
  have H := Lib.hid h
  clear h
  go_enter Tryz.func147, Tryz.ntmps147
  go_wp2_with fail
  refine (whole_any _ _ _ _ va.nan vb.nan _).mono ?_
  rintro e w' ⟨rfl, rfl⟩
  rw [show (leW 14055734437023318016 (fk 0 a) && leW (fk 0 a) 4832362400168542208 && eqW (flr (fk 0 a)) (fk 0 a) && leW 14055734437023318016 (fk 0 b) && leW (fk 0 b) 4832362400168542208 && eqW (flr (fk 0 b)) (fk 0 b)) = true from H.out]
  go_wp2_with fail
  refine (rest_any a ha _).mono ?_
  rintro e w' ⟨rfl, rfl⟩
  go_wp2_with fail
  refine (rest_any b hb _).mono ?_
  rintro e w' ⟨rfl, rfl⟩
  go_wp2_with fail
  go_ret
  exact ⟨rfl, rfl⟩
def gz (a b : Int) : Value := .complex .f64 (fk 0 a) (fk 0 b)
def Pt (a : Int) : Prop := 0 ≤ a ∧ a ≤ 65520
theorem may_gz (a b : Int) (ha : Pt a) (hb : Pt b) (w : World) :
    Calls Tryz.prog 119 #[gz a b] w fun e w' => e = .returned (.bool true) ∧ w = w' := by
  unfold Pt at ha hb
  have va := VW_fk 0 a (by omega) (by omega)
  have vb := VW_fk 0 b (by omega) (by omega)
  refine (may_any (fk 0 a) (fk 0 b) va.nan vb.nan w).mono ?_
  rintro e w' ⟨rfl, rfl⟩
  rw [mayB_int a b (by omega) (by omega)]
  refine ⟨?_, rfl⟩
  rw [decide_eq_true ⟨ha, hb⟩]
set_option maxHeartbeats 400000 in
theorem add_gz (a b c d : Int) (ha : Pt a) (hb : Pt b) (hc : Pt c) (hd : Pt d) (w : World) :
    Calls Tryz.prog 131 #[gz a b, gz c d] w fun e w' => e = .returned (gz ((a + c) % 65521) ((b + d) % 65521)) ∧ w = w' := by
  unfold Pt at ha hb hc hd
  have h1 : cSumBits .add .f64 (fk 0 a) (fk 0 b) (fk 0 c) (fk 0 d) = some (fk 0 (a + c), fk 0 (b + d)) := by
    unfold cSumBits
    rw [show floatBits .add .f64 (fk 0 a) (fk 0 c) = some (fk 0 (a + c)) from add_fk 0 a c (by omega) (by omega) (by omega) (by omega),
      show floatBits .add .f64 (fk 0 b) (fk 0 d) = some (fk 0 (b + d)) from add_fk 0 b d (by omega) (by omega) (by omega) (by omega)]
    rfl
  have k1 := fun t w => run_complex_sum (P := Tryz.prog) w .add (Or.inl rfl) t .f64 _ _ _ _ _ _ h1
  clear h1
  have m1 := may_gz a b ha hb
  have m2 := may_gz c d hc hd
  unfold gz at m1 m2 ⊢
  have M1 := Lib.hid m1
  have M2 := Lib.hid m2
  clear m1 m2
  go_enter Tryz.func131, Tryz.ntmps131
  go_wp2_with fail
  refine (M1.out _).mono ?_
  rintro e w' ⟨rfl, rfl⟩
  go_wp2_with fail
  refine (M2.out _).mono ?_
  rintro e w' ⟨rfl, rfl⟩
  go_wp2_with fail
  refine (mod_int (a + c) (b + d) (by omega) (by omega) _).mono ?_
  rintro e w' ⟨rfl, rfl⟩
  go_wp2_with fail
  go_ret
  exact ⟨rfl, rfl⟩
theorem prod_bound {a b : Int} (ha : Pt a) (hb : Pt b) : 0 ≤ a * b ∧ a * b ≤ 4292870400 := by
  unfold Pt at ha hb
  refine ⟨Int.mul_nonneg ha.1 hb.1, ?_⟩
  have := Int.mul_le_mul ha.2 hb.2 hb.1 (by omega)
  omega
theorem mul_pt {a b : Int} (ha : Pt a) (hb : Pt b) : floatBits .mul .f64 (fk 0 a) (fk 0 b) = some (fk 0 (a * b)) := by
  have h := prod_bound ha hb
  unfold Pt at ha hb
  exact mul_fk a b (by omega) (by omega) (by omega) ⟨fun _ => by omega, fun _ => by omega⟩
set_option maxHeartbeats 400000 in
theorem mul_gz (a b c d : Int) (ha : Pt a) (hb : Pt b) (hc : Pt c) (hd : Pt d) (w : World) :
    Calls Tryz.prog 132 #[gz a b, gz c d] w fun e w' => e = .returned (gz ((a * c - b * d) % 65521) ((a * d + b * c) % 65521)) ∧ w = w' := by
  have b1 := prod_bound ha hc
  have b2 := prod_bound hb hd
  have b3 := prod_bound ha hd
  have b4 := prod_bound hb hc
  have h1 : cMulBits (fk 0 a) (fk 0 b) (fk 0 c) (fk 0 d) = some (fk 0 (a * c - b * d), fk 0 (a * d + b * c)) := by
    unfold cMulBits
    rw [mul_pt ha hc, mul_pt hb hd, mul_pt ha hd, mul_pt hb hc]
    show (Option.bind (floatBits .sub .f64 (fk 0 (a * c)) (fk 0 (b * d))) fun re => Option.bind (floatBits .add .f64 (fk 0 (a * d)) (fk 0 (b * c))) fun im => some (re, im)) = _
    rw [show floatBits .sub .f64 (fk 0 (a * c)) (fk 0 (b * d)) = some (fk 0 (a * c - b * d)) from sub_fk 0 _ _ (by omega) (by omega) (by omega) (by omega),
      show floatBits .add .f64 (fk 0 (a * d)) (fk 0 (b * c)) = some (fk 0 (a * d + b * c)) from add_fk 0 _ _ (by omega) (by omega) (by omega) (by omega)]
    rfl
  have k1 := fun t w => run_complex_mul (P := Tryz.prog) w t _ _ _ _ _ _ h1
  clear h1
  have m1 := may_gz a b ha hb
  have m2 := may_gz c d hc hd
  have m3 := mod_int (a * c - b * d) (a * d + b * c) (by omega) (by omega)
  clear b1 b2 b3 b4
  generalize a * c - b * d = P at *
  generalize a * d + b * c = Q at *
  unfold gz at m1 m2 ⊢
  have M1 := Lib.hid m1
  have M2 := Lib.hid m2
  have M3 := Lib.hid m3
  clear m1 m2 m3
  go_enter Tryz.func132, Tryz.ntmps132
  go_wp2_with fail
  refine (M1.out _).mono ?_
  rintro e w' ⟨rfl, rfl⟩
  go_wp2_with fail
  refine (M2.out _).mono ?_
  rintro e w' ⟨rfl, rfl⟩
  go_wp2_with fail
  refine (M3.out _).mono ?_
  rintro e w' ⟨rfl, rfl⟩
  go_wp2_with fail
  go_ret
  exact ⟨rfl, rfl⟩
theorem may_not (x y : Nat) (hx : (Ieee.double.read x).isNaN = false) (hy : (Ieee.double.read y).isNaN = false) (h : mayB x y = false) (w : World) :
    Calls Tryz.prog 119 #[.complex .f64 x y] w fun e w' => e = .returned (.bool false) ∧ w = w' := by
  refine (may_any x y hx hy w).mono ?_
  rintro e w' ⟨rfl, rfl⟩
  rw [h]
  exact ⟨rfl, rfl⟩
end Go.Proofs.YtaacdggjkfmehaaGreatDoor
namespace Go.Proofs.YtaacdggjkfmehaaGreatDoor
open Go.RowKit
def dg (k : Nat) : Int := if k < 10 then 48 + k else 87 + k
def TzAt (w : World) : Prop := w.cell? ⟨5, 15, none⟩ = some (.int .u8 4) ∧ 5 < w.heap.size
def Arr (w : World) (b : Nat) (f : Nat → Int) : Prop := (∀ i, i < 65 → w.cell? ⟨b, i, none⟩ = some (.int .u8 (f i)) ∧ w.frozen? ⟨b, i, none⟩ = false) ∧ b < w.heap.size
theorem Arr.set {w : World} {b : Nat} {f : Nat → Int} (h : Arr w b f) (j : Nat) (x : Int) (hj : j < 65) : Arr (w.setCell ⟨b, j, none⟩ (.int .u8 x)) b (fun i => if i = j then x else f i) := by
  refine ⟨fun i hi => ⟨?_, ?_⟩, by simpa using h.2⟩
  · have hc := (h.1 i hi).1
    by_cases e : i = j
    · subst e
      show _ = some (Value.int .u8 (if i = i then x else f i))
      rw [if_pos rfl]
      go_simp
    · show _ = some (Value.int .u8 (if i = j then x else f i))
      rw [if_neg e]
      go_simp
  · have := (h.1 i hi).2
    go_simp
theorem pow2_16 (w : World) : Calls Tryz.prog 153 #[.int .i64 16] w fun e w' => e = .returned (.bool true) ∧ w = w' := by
  have k1 : bits BinOp.and IntKind.i64 16 15 = 0 := by decide
  go_enter Tryz.func153, Tryz.ntmps153
  go_wp2
  go_ret
  exact ⟨rfl, rfl⟩
theorem tz64_16 (w : World) (ht : TzAt w) : Calls Tryz.prog 161 #[.int .u64 16] w fun e w' => e = .returned (.int .i64 4) ∧ w = w' := by
  obtain ⟨t0, t1⟩ := ht
  have k1 : IntKind.u64.wrap (bits BinOp.and IntKind.u64 16 (IntKind.u64.wrap (-16)) * 285870213051353865) / 288230376151711744 = 15 := by decide
  go_enter Tryz.func161, Tryz.ntmps161
  go_wp2
  go_ret
  exact ⟨rfl, rfl⟩
theorem tz_16 (w : World) (ht : TzAt w) : Calls Tryz.prog 154 #[.int .u64 16] w fun e w' => e = .returned (.int .i64 4) ∧ w = w' := by
  have H := Lib.hid (tz64_16 w ht)
  clear ht
  go_enter Tryz.func154, Tryz.ntmps154
  go_wp2_with fail
  refine H.out.mono ?_
  rintro e w' ⟨rfl, rfl⟩
  go_wp2_with fail
  go_ret
  exact ⟨rfl, rfl⟩
theorem TzAt.below {w w' : World} (h : TzAt w) (hb : Below w.heap.size w w') : TzAt w' :=
  ⟨by rw [hb.cell h.2]; exact h.1, Nat.lt_of_lt_of_le h.2 hb.size⟩
theorem and15 (m : Nat) (h : m < 65536) : bits BinOp.and IntKind.u64 (m : Int) 15 = ((m % 16 : Nat) : Int) := by
  have e := bits_and_u64_nat m 15 (by omega) (by omega)
  rw [show ((15 : Nat) : Int) = 15 from rfl] at e
  rw [e, show (15 : Nat) = 2 ^ 4 - 1 from rfl, Nat.and_two_pow_sub_one_eq_mod]
def Dig (n j m : Nat) (f : Nat → Int) : Prop :=
  ((j = 0 ∧ m = n) ∨ (j = 1 ∧ m = n / 16 ∧ 16 ≤ n) ∨ (j = 2 ∧ m = n / 256 ∧ 256 ≤ n) ∨ (j = 3 ∧ m = n / 4096 ∧ 4096 ≤ n)) ∧
  (0 < j → f 64 = dg (n % 16)) ∧ (1 < j → f 63 = dg (n / 16 % 16)) ∧ (2 < j → f 62 = dg (n / 256 % 16))
theorem Dig.step {n j m : Nat} {f : Nat → Int} (h : Dig n j m f) (hn : n < 65536) (hm : 16 ≤ m) : Dig n (j + 1) (m / 16) (fun i => if i = 64 - j then dg (m % 16) else f i) := by
  obtain ⟨h0, h1, h2, h3⟩ := h
  refine ⟨by omega, fun _ => ?_, fun _ => ?_, fun _ => ?_⟩
  · show (if 64 = 64 - j then dg (m % 16) else f 64) = _
    by_cases e : j = 0
    · rw [if_pos (by omega)]; congr 1; omega
    · rw [if_neg (by omega)]; exact h1 (by omega)
  · show (if 63 = 64 - j then dg (m % 16) else f 63) = _
    by_cases e : j = 1
    · rw [if_pos (by omega)]; congr 1; omega
    · rw [if_neg (by omega)]; exact h2 (by omega)
  · show (if 62 = 64 - j then dg (m % 16) else f 62) = _
    by_cases e : j = 2
    · rw [if_pos (by omega)]; congr 1; omega
    · rw [if_neg (by omega)]; exact h3 (by omega)
def FbRel (n : Nat) (w : World) (u i : Value) (wr : World) : Prop :=
  ∃ (j m : Nat) (f : Nat → Int), u = .int .u64 m ∧ i = .int .i64 (65 - j) ∧ Dig n j m f ∧ Arr wr w.heap.size f ∧ Below w.heap.size w wr
theorem dgix (k : Nat) (hk : k < 16) : ∀ w, (Instr.index 9 (.string ⟨#[48, 49, 50, 51, 52, 53, 54, 55, 56, 57, 97, 98, 99, 100, 101, 102, 103, 104, 105, 106, 107, 108, 109, 110, 111, 112, 113, 114, 115, 116, 117, 118, 119, 120, 121, 122]⟩) (.int .u64 k)).run Tryz.prog w = .ok (.int .u8 (dg k)) w := by
  intro w
  rcases k with _|_|_|_|_|_|_|_|_|_|_|_|_|_|_|_|k
  all_goals first | (exfalso; omega) | kernel_rfl
theorem dgb (d : Nat) (hd : d < 16) (h : d < (⟨#[48, 49, 50, 51, 52, 53, 54, 55, 56, 57, 97, 98, 99, 100, 101, 102, 103, 104, 105, 106, 107, 108, 109, 110, 111, 112, 113, 114, 115, 116, 117, 118, 119, 120, 121, 122]⟩ : ByteArray).size) :
    (((⟨#[48, 49, 50, 51, 52, 53, 54, 55, 56, 57, 97, 98, 99, 100, 101, 102, 103, 104, 105, 106, 107, 108, 109, 110, 111, 112, 113, 114, 115, 116, 117, 118, 119, 120, 121, 122]⟩ : ByteArray)[d]'h).toNat : Int) = dg d := by
  rcases d with _|_|_|_|_|_|_|_|_|_|_|_|_|_|_|_|d
  all_goals first | (exfalso; omega) | rfl
def strN (ns : List Int) : ByteArray := ⟨(ns.map fun x => UInt8.ofNat x.toNat).toArray⟩
theorem push_all (ns : List Int) (a : Array UInt8) : ns.foldl (fun r n => r.push (UInt8.ofNat n.toNat)) (⟨a⟩ : ByteArray) = ⟨a ++ (ns.map fun x => UInt8.ofNat x.toNat).toArray⟩ := by
  induction ns generalizing a with
  | nil => simp
  | cons n ns ih =>
    rw [List.foldl_cons]
    show ns.foldl _ (⟨a.push _⟩ : ByteArray) = _
    rw [ih]
    simp
theorem conv_bytes (w : World) (b o c : Nat) (ns : List Int) (h : ∀ i v, (ns.map (Value.int .u8))[i]? = some v → w.cell? ⟨b, o + i, none⟩ = some v) :
    (convert 85 9 (.slice (some ⟨b, o, none⟩) ns.length c)).run Tryz.prog w = .ok (.string (strN ns)) w := by
  rw [run_convert_bytes_string w 85 9 5 _ _ _ Tryz.underlying85 Tryz.underlying5 Tryz.underlying9]
  have hl := run_loadCells_list (P := Tryz.prog) (w := w) ⟨b, o, none⟩ (ns.map (Value.int .u8)) (fun i v hv => by
    have h' := h i v hv
    simp only [Addr.add]
    split
    · rename_i e; subst e; exact h'
    · exact h')
  rw [List.length_map] at hl
  rw [run_bytesToString w _ _ _ ns hl]
  rw [show ByteArray.empty = (⟨#[]⟩ : ByteArray) from rfl, push_all]
  simp [strN]
theorem sl65 (b l : Nat) (hl : l ≤ 64) (w : World) :
    (Instr.sliceAt 203 (.pointer (some ⟨b, 0, none⟩)) (some (.int .i64 l)) none none).run Tryz.prog w = .ok (.slice (some ⟨b, l, none⟩) (65 - l) (65 - l)) w := by
  have hlen : Tryz.prog.arrayLen 203 = 65 := by kernel_rfl
  have hs : (sizeOf (Tryz.prog.elem 203)).run Tryz.prog w = .ok 1 w := by kernel_rfl
  rw [run_sliceAt_array_l w 203 ⟨b, 0, none⟩ (by kernel_rfl) .i64 l (by omega) (by rw [hlen]; omega), hs]
  show Result.ok (slicedAt ⟨b, 0, none⟩ _ _ _ _) w = _
  rw [hlen]
  unfold slicedAt
  rw [if_neg (by omega)]
  simp [Addr.add]
  omega
def hexL (n : Nat) : List Int :=
  if n < 16 then [dg n] else if n < 256 then [dg (n / 16), dg (n % 16)] else if n < 4096 then [dg (n / 256), dg (n / 16 % 16), dg (n % 16)]
  else [dg (n / 4096), dg (n / 256 % 16), dg (n / 16 % 16), dg (n % 16)]
theorem hex_cells {n j m : Nat} {f : Nat → Int} {w : World} {b : Nat} (hn : n < 65536) (hm : m < 16) (h : Dig n j m f) (ha : Arr w b (fun i => if i = 64 - j then dg m else f i)) :
    (hexL n).length = j + 1 ∧ ∀ i v, ((hexL n).map (Value.int .u8))[i]? = some v → w.cell? ⟨b, 64 - j + i, none⟩ = some v := by
  obtain ⟨h0, h1, h2, h3⟩ := h
  have c0 := (ha.1 64 (by omega)).1
  have c1 := (ha.1 63 (by omega)).1
  have c2 := (ha.1 62 (by omega)).1
  have c3 := (ha.1 61 (by omega)).1
  rcases h0 with ⟨rfl, rfl⟩ | ⟨rfl, rfl, hj⟩ | ⟨rfl, rfl, hj⟩ | ⟨rfl, rfl, hj⟩
  · have e : hexL m = [dg m] := by unfold hexL; rw [if_pos hm]
    rw [e]
    refine ⟨rfl, fun i v hv => ?_⟩
    rcases i with _|i
    · simp at hv; subst hv; simpa using c0
    · simp at hv
  · have e : hexL n = [dg (n / 16), dg (n % 16)] := by unfold hexL; rw [if_neg (by omega), if_pos (by omega)]
    have g1 := h1 (by omega)
    rw [e]
    refine ⟨rfl, fun i v hv => ?_⟩
    rcases i with _|_|i
    · simp at hv; subst hv; simpa using c1
    · simp at hv; subst hv; simpa [g1] using c0
    · simp at hv
  · have e : hexL n = [dg (n / 256), dg (n / 16 % 16), dg (n % 16)] := by unfold hexL; rw [if_neg (by omega), if_neg (by omega), if_pos (by omega)]
    have g1 := h1 (by omega)
    have g2 := h2 (by omega)
    rw [e]
    refine ⟨rfl, fun i v hv => ?_⟩
    rcases i with _|_|_|i
    · simp at hv; subst hv; simpa using c2
    · simp at hv; subst hv; simpa [g2] using c1
    · simp at hv; subst hv; simpa [g1] using c0
    · simp at hv
  · have e : hexL n = [dg (n / 4096), dg (n / 256 % 16), dg (n / 16 % 16), dg (n % 16)] := by unfold hexL; rw [if_neg (by omega), if_neg (by omega), if_neg (by omega)]
    have g1 := h1 (by omega)
    have g2 := h2 (by omega)
    have g3 := h3 (by omega)
    rw [e]
    refine ⟨rfl, fun i v hv => ?_⟩
    rcases i with _|_|_|_|i
    · simp at hv; subst hv; simpa using c3
    · simp at hv; subst hv; simpa [g3] using c2
    · simp at hv; subst hv; simpa [g2] using c1
    · simp at hv; subst hv; simpa [g1] using c0
    · simp at hv
set_option maxRecDepth 100000 in
set_option maxHeartbeats 400000 in
theorem fbits16 (n : Nat) (hn : n < 65536) (w : World) (ht : TzAt w) :
    Calls Tryz.prog 138 #[.slice none 0 0, .int .u64 n, .int .i64 16, .bool false, .bool false] w fun e w' => e = .returned (.tuple #[.slice none 0 0, .string (strN (hexL n))]) ∧ Below w.heap.size w w' := by
  have HT := Lib.hid (ht.below ((Below.refl _ _).alloc (Nat.le_refl _) (.cells (Array.replicate 65 (.int .u8 0)) 203)))
  clear ht
  have hzero : ∀ w, (zeroValue 203).run Tryz.prog w = .ok (.agg (Array.replicate 65 (.int .u8 0))) w := fun _ => by kernel_rfl
  go_enter Tryz.func138, Tryz.ntmps138
  go_wp2_with fail
  refine (pow2_16 _).mono ?_
  rintro e w' ⟨rfl, rfl⟩
  go_wp2_with fail
  refine (tz_16 _ HT.out).mono ?_
  rintro e w' ⟨rfl, rfl⟩
  go_wp2_with fail
  go_loopw [1, 13] (fun u i wr => FbRel n w u i wr) (fun u _ _ => (intOf u).toNat)
  case atStart =>
    refine ⟨0, n, fun _ => 0, rfl, rfl, ⟨Or.inl ⟨rfl, rfl⟩, by omega, by omega, by omega⟩, ⟨fun i hi => ⟨?_, ?_⟩, by simp⟩, (Below.refl _ _).alloc (Nat.le_refl _) _⟩
    · go_simp
    · go_simp
  case round =>
    obtain ⟨j, m, f, rfl, rfl, hd, ha, hB⟩ := hrel
    have hm : m < 65536 := by have := hd.1; omega
    by_cases hlt : 16 ≤ m
    · have hj : j ≤ 2 := by have := hd.1; omega
      have HD := Lib.hid (hd.step hn hlt)
      have HA := Lib.hid ha
      have c0 := (ha.1 (65 - j - 1) (by omega)).1
      have z0 := (ha.1 (65 - j - 1) (by omega)).2
      clear hd ha
      obtain ⟨d, hdm⟩ : ∃ d, m % 16 = d := ⟨_, rfl⟩
      have hd16 : d < 16 := by omega
      have k1 := and15 m hm
      rw [hdm] at k1 HD
      have hb0 : (0 : Int) ≤ (d : Int) ∧ (d : Int) < 36 := by omega
      clear hdm
      have hlt' : (16 : Int) ≤ (m : Int) := by omega
      go_wp2_with fail
      rw [dgb d hd16]
      refine ⟨⟨j + 1, m / 16, _, by go_num, ?_, HD.out, ?_, hB.setCell (by simp) _⟩, by simp [intOf]; omega⟩
      · rw [show (65 : Int) - (j : Int) - 1 = 65 - ((j + 1 : Nat) : Int) from by omega]
      · rw [show 65 - j - 1 = 64 - j from by omega]
        exact HA.out.set (64 - j) _ (by omega)
    · have hj : j ≤ 3 := by have := hd.1; omega
      have c0 := (ha.1 (65 - j - 1) (by omega)).1
      have z0 := (ha.1 (65 - j - 1) (by omega)).2
      have HA := Lib.hid (ha.set (64 - j) (dg m) (by omega))
      have HC := Lib.hid (hex_cells hn (by omega) hd (ha.set (64 - j) (dg m) (by omega)))
      clear hd ha
      have hb0 : (0 : Int) ≤ (m : Int) ∧ (m : Int) < 36 := by omega
      have hsl : ∀ w0, (Instr.sliceAt 203 (.pointer (some ⟨w.heap.size, 0, none⟩)) (some (.int .i64 (65 - (j : Int) - 1))) none none).run Tryz.prog w0 = .ok (.slice (some ⟨w.heap.size, 64 - j, none⟩) (hexL n).length (j + 1)) w0 := by
        intro w0
        rw [show (65 : Int) - (j : Int) - 1 = ((64 - j : Nat) : Int) from by omega, sl65 _ _ (by omega), HC.out.1, show 65 - (64 - j) = j + 1 from by omega]
      have hcv := conv_bytes (wr.setCell ⟨w.heap.size, 64 - j, none⟩ (.int .u8 (dg m))) w.heap.size (64 - j) (j + 1) (hexL n) HC.out.2
      rw [← dgb m (by omega) (by show m < 36; omega), show 64 - j = 65 - j - 1 from by omega] at hcv
      rw [show 64 - j = 65 - j - 1 from by omega] at hsl
      go_wp2_with fail
      exact bodyPost_ret (v := .tuple #[.slice none 0 0, .string (strN (hexL n))]) (by simp [results, Tryz.results138, go_sem]) rfl
        ⟨rfl, hB.setCell (by simp) _⟩
theorem ifmt16 (n : Nat) (hn : n < 65536) (w : World) (ht : TzAt w) :
    Calls Tryz.prog 125 #[.int .i64 n, .int .i64 16] w fun e w' => e = .returned (.string (strN (hexL n))) ∧ Below w.heap.size w w' := by
  have H := Lib.hid (fbits16 n hn w ht)
  clear ht
  have hw : IntKind.u64.wrap (n : Int) = (n : Int) := by rw [IntKind.wrap_u64]; omega
  have h0 : (0 : Int) ≤ (n : Int) := by omega
  go_enter Tryz.func125, Tryz.ntmps125
  go_wp2_with fail
  refine H.out.mono ?_
  rintro e w' ⟨rfl, hb⟩
  go_wp2_with fail
  go_ret
  exact ⟨rfl, hb⟩
theorem fmt16 (n : Nat) (hn : n < 65536) (w : World) (ht : TzAt w) :
    Calls Tryz.prog 114 #[.int .i64 n, .int .i64 16] w fun e w' => e = .returned (.string (strN (hexL n))) ∧ Below w.heap.size w w' := by
  have H := Lib.hid (ifmt16 n hn w ht)
  clear ht
  go_enter Tryz.func114, Tryz.ntmps114
  go_wp2_with fail
  refine H.out.mono ?_
  rintro e w' ⟨rfl, hb⟩
  go_wp2_with fail
  go_ret
  exact ⟨rfl, hb⟩
def fourL (n : Nat) : List Int := [dg (n / 4096 % 16), dg (n / 256 % 16), dg (n / 16 % 16), dg (n % 16)]
theorem hexL_le (n : Nat) : (hexL n).length ≤ 4 ∧ 1 ≤ (hexL n).length := by
  unfold hexL
  split
  · simp
  · split
    · simp
    · split <;> simp
theorem dg_zero : dg 0 = 48 := rfl
theorem four_pad (n : Nat) (hn : n < 65536) : List.replicate (4 - (hexL n).length) 48 ++ hexL n = fourL n := by
  unfold hexL fourL
  split
  · have h1 : n / 4096 % 16 = 0 := by omega
    have h2 : n / 256 % 16 = 0 := by omega
    have h3 : n / 16 % 16 = 0 := by omega
    have h4 : n % 16 = n := by omega
    rw [h1, h2, h3, h4, dg_zero]; rfl
  · split
    · have h1 : n / 4096 % 16 = 0 := by omega
      have h2 : n / 256 % 16 = 0 := by omega
      have h3 : n / 16 % 16 = n / 16 := by omega
      rw [h1, h2, h3, dg_zero]; rfl
    · split
      · have h1 : n / 4096 % 16 = 0 := by omega
        have h2 : n / 256 % 16 = n / 256 := by omega
        rw [h1, h2, dg_zero]; rfl
      · have h1 : n / 4096 % 16 = n / 4096 := by omega
        rw [h1]; rfl
end Go.Proofs.YtaacdggjkfmehaaGreatDoor
namespace Go.Proofs.YtaacdggjkfmehaaGreatDoor
open Go.RowKit
def hexd (c : UInt8) : Option Nat :=
  if 48 ≤ c.toNat ∧ c.toNat ≤ 57 then some (c.toNat - 48) else if 97 ≤ c.toNat ∧ c.toNat ≤ 102 then some (c.toNat - 87) else if 65 ≤ c.toNat ∧ c.toNat ≤ 70 then some (c.toNat - 55) else none
def hexP (acc : Nat) : List UInt8 → Option Nat
  | [] => some acc
  | c :: l => (hexd c).bind fun d => hexP (acc * 16 + d) l
def uintT : Option Nat → Value
  | some n => .tuple #[.int .u64 n, .nilIface]
  | none => .tuple #[.int .u64 0, .iface 183 (.int .i64 2)]
theorem lower_any (c : Int) (w : World) : Calls Tryz.prog 139 #[.int .u8 c] w fun e w' => e = .returned (.int .u8 (bits .or .u8 c 32)) ∧ w = w' := by
  go_enter Tryz.func139, Tryz.ntmps139
  go_wp2
  go_ret
  exact ⟨rfl, rfl⟩
theorem or32_small : ∀ c : Fin 256, 97 ≤ c.val ∧ c.val ≤ 102 → bits .or .u8 (c.val : Int) 32 = c.val := by decide +kernel
theorem or32_great : ∀ c : Fin 256, 65 ≤ c.val ∧ c.val ≤ 70 → bits .or .u8 (c.val : Int) 32 = c.val + 32 := by decide +kernel
theorem or32_other : ∀ c : Fin 256, ¬ (97 ≤ c.val ∧ c.val ≤ 102) → ¬ (65 ≤ c.val ∧ c.val ≤ 70) → ¬ (48 ≤ c.val ∧ c.val ≤ 57) → (bits .or .u8 (c.val : Int) 32 < 97 ∨ 103 ≤ bits .or .u8 (c.val : Int) 32) := by decide +kernel
theorem pow16 (k : Nat) (h : k ≤ 7) : 16 ^ k ≤ 268435456 := Nat.le_trans (Nat.pow_le_pow_right (by decide) h) (by decide)
set_option maxHeartbeats 4000000 in
set_option maxRecDepth 100000 in
theorem ipuint16 (t : ByteArray) (h8 : t.size = 8) (w : World) :
    Calls Tryz.prog 126 #[.string t, .int .i64 16, .int .i64 32] w fun e w' => e = .returned (uintT (hexP 0 t.data.toList)) ∧ w' = Lib.bytesWorld w 5 t := by
  have hemp : t.toList.isEmpty = false := by
    rw [← decide_eq_emptyBytes]
    exact decide_eq_false (fun h => by rw [h] at h8; cases h8)
  have hcv := Lib.run_convert_string_bytes (P := Tryz.prog) w 9 85 5 t (u := .string) Tryz.underlying9 Tryz.underlying85 Tryz.underlying5
  have hB : ∀ j, j < t.size → (Lib.bytesWorld w 5 t).cell? ⟨w.heap.size, j, none⟩ = some (.int .u8 (t.data.toList.getD j 0).toNat) := fun j hj => Lib.bytesWorld_cell w 5 t j hj
  obtain ⟨W1, hW1⟩ : ∃ W1, W1 = Lib.bytesWorld w 5 t := ⟨_, rfl⟩
  rw [← hW1] at hcv hB ⊢
  clear hW1
  obtain ⟨bs, hL⟩ : ∃ bs, bs = t.data.toList := ⟨_, rfl⟩
  have hLn : bs.length = t.size := by rw [hL, Lib.size_eq]
  rw [← hL] at hB ⊢
  clear hL
  have hmv : IntKind.u64.wrap (IntKind.u64.wrap 4294967296 - 1) = 4294967295 := by
    rw [IntKind.wrap_u64, IntKind.wrap_u64]
    decide
  go_enter Tryz.func126, Tryz.ntmps126
  go_wp2
  go_loop [12, 13, 101] (fun vu vn vi => ∃ (k acc : Nat) (a : Int), vu = .bool false ∧ vn = .int .u64 a ∧ vi = .int .i64 k ∧ k ≤ t.size ∧ Hid (a = (acc : Int) ∧ acc < 16 ^ k ∧ hexP 0 bs = hexP acc (bs.drop k)))
    (fun _ _ vi => t.size - (intOf vi).toNat)
  case atStart => exact ⟨0, 0, 0, rfl, rfl, rfl, by omega, rfl, by decide, rfl⟩
  case round =>
    obtain ⟨k, acc, a, rfl, rfl, rfl, hk, hh⟩ := hrel
    obtain ⟨ha, hacc, hdec⟩ := hh.out
    clear hh
    by_cases hkn : k < t.size
    · have hc := hB k hkn
      have hdrop : bs.drop k = bs[k]'(by omega) :: bs.drop (k + 1) := List.drop_eq_getElem_cons (by omega)
      have hget : bs.getD k 0 = bs[k]'(by omega) := by simp [List.getD, List.getElem?_eq_getElem (show k < bs.length by omega)]
      rw [hdrop] at hdec
      rw [hget] at hc
      generalize bs[k]'(by omega) = c at hc hdec
      have hc256 : c.toNat < 256 := c.toNat_lt
      have hp := pow16 k (by omega)
      have hacc28 : acc < 268435456 := by omega
      have a0 : 0 ≤ a := by omega
      have a1 : a < 268435456 := by omega
      have ps : (16 : Nat) ^ (k + 1) = 16 ^ k * 16 := Nat.pow_succ ..
      generalize (16 : Nat) ^ (k + 1) = p2 at ps
      clear hB hdrop hget
      have step : ∀ d : Nat, hexd c = some d → d < 16 → Hid (a * 16 + (d : Int) = ((acc * 16 + d : Nat) : Int) ∧ acc * 16 + d < 16 ^ (k + 1) ∧ hexP 0 bs = hexP (acc * 16 + d) (bs.drop (k + 1))) := by
        intro d hd hd16
        refine Lib.hid ⟨by omega, ?_, ?_⟩
        · rw [Nat.pow_succ]; omega
        · rw [hdec]
          show (hexd c).bind _ = _
          rw [hd]; rfl
      clear ps hp
      by_cases hdig : 48 ≤ c.toNat ∧ c.toNat ≤ 57
      · obtain ⟨hd0, hd1⟩ := hdig
        have HN := step (c.toNat - 48) (by unfold hexd; rw [if_pos ⟨hd0, hd1⟩]) (by omega)
        have e48 : ((c.toNat - 48 : Nat) : Int) = (c.toNat : Int) - 48 := by omega
        rw [e48] at HN
        clear step hdec ha hacc e48
        go_wp2
        refine ⟨⟨k + 1, acc * 16 + (c.toNat - 48), a * 16 + ((c.toNat : Int) - 48), rfl, (by first | rfl | (congr 1; omega)), (by first | rfl | (congr 1; omega)), by omega, HN⟩, by simp [intOf]; omega⟩
      · by_cases hlow : 97 ≤ c.toNat ∧ c.toNat ≤ 102
        · obtain ⟨hd0, hd1⟩ := hlow
          have HN := step (c.toNat - 87) (by unfold hexd; rw [if_neg hdig, if_pos ⟨hd0, hd1⟩]) (by omega)
          have e48 : ((c.toNat - 87 : Nat) : Int) = (c.toNat : Int) - 97 + 10 := by omega
          rw [e48] at HN
          have ho := or32_small ⟨c.toNat, hc256⟩ ⟨hd0, hd1⟩
          simp only at ho
          have hd' : ¬ (c.toNat : Int) ≤ 57 := by omega
          have hd'' : ((c.toNat : Int) == 95) = false := by rw [beq_eq_false_iff_ne]; omega
          clear step hdec ha hacc e48 hdig
          go_wp2_with (go_at_call 139; refine (lower_any _ _).mono ?_; rintro e w' ⟨rfl, rfl⟩)
          refine ⟨⟨k + 1, acc * 16 + (c.toNat - 87), a * 16 + ((c.toNat : Int) - 97 + 10), rfl, (by first | rfl | (congr 1; omega)), (by first | rfl | (congr 1; omega)), by omega, HN⟩, by simp [intOf]; omega⟩
        · by_cases hup : 65 ≤ c.toNat ∧ c.toNat ≤ 70
          · obtain ⟨hd0, hd1⟩ := hup
            have HN := step (c.toNat - 55) (by unfold hexd; rw [if_neg hdig, if_neg hlow, if_pos ⟨hd0, hd1⟩]) (by omega)
            have e48 : ((c.toNat - 55 : Nat) : Int) = (c.toNat : Int) + 32 - 97 + 10 := by omega
            rw [e48] at HN
            have ho := or32_great ⟨c.toNat, hc256⟩ ⟨hd0, hd1⟩
            simp only at ho
            have hd' : ¬ (c.toNat : Int) ≤ 57 := by omega
            have hd'' : ((c.toNat : Int) == 95) = false := by rw [beq_eq_false_iff_ne]; omega
            clear step hdec ha hacc e48 hdig hlow
            go_wp2_with (go_at_call 139; refine (lower_any _ _).mono ?_; rintro e w' ⟨rfl, rfl⟩)
            refine ⟨⟨k + 1, acc * 16 + (c.toNat - 55), a * 16 + ((c.toNat : Int) + 32 - 97 + 10), rfl, (by first | rfl | (congr 1; omega)), (by first | rfl | (congr 1; omega)), by omega, HN⟩, by simp [intOf]; omega⟩
          · have hF : hexP acc (c :: bs.drop (k + 1)) = none := by
              show (hexd c).bind _ = _
              unfold hexd
              rw [if_neg hdig, if_neg hlow, if_neg hup]; rfl
            rw [hF] at hdec
            have hv0 := bits_lo_u8 .or (c.toNat : Int) 32
            have hv1 := bits_hi_u8 .or (c.toNat : Int) 32
            have hv2 := or32_other ⟨c.toNat, hc256⟩ (fun h => hlow h) (fun h => hup h) (fun h => hdig h)
            simp only at hv2
            have hu0 := bits_lo_u8 .or 95 32
            have hu1 := bits_hi_u8 .or 95 32
            have hu2 := or32_other 95 (by decide) (by decide) (by decide)
            clear step hF ha hacc
            go_wp2_with (go_at_call 139; refine (lower_any _ _).mono ?_; rintro e w' ⟨rfl, rfl⟩)
            all_goals go_ret2
            all_goals first | exact ⟨rfl, rfl⟩ | exact ⟨by rw [hdec]; rfl, rfl⟩
    · -- the bytes are at an end
      have hkk : k = t.size := by omega
      subst hkk
      have hF : hexP acc (bs.drop t.size) = some acc := by rw [List.drop_eq_nil_of_le (by omega)]; rfl
      rw [hF] at hdec
      subst ha
      clear hacc hF
      go_wp2
      go_ret2
      exact ⟨rfl, rfl⟩
end Go.Proofs.YtaacdggjkfmehaaGreatDoor
