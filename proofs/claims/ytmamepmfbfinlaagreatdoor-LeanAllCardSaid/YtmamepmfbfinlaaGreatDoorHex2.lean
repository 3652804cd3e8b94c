/-
  The contracts of gauss.four and gauss.Text, and of the reference's four and Text.
-/
import Derived.Test.YtmamepmfbfinlaaGreatDoorHex1
import Derived.Test.YtmamepmfbfinlaaGreatDoorRef2
import Derived.Test.YtmamepmfbfinlaaGreatDoorGauss2
import Derived.BigRegion
namespace Go.Proofs.YtmamepmfbfinlaaGreatDoor
open Go.RowKit Go.Proofs.Flo Go.Proofs.Cpl

theorem ret_str {a b : ByteArray} (h : a = b) : Ending.returned (.string a) = .returned (.string b) := by rw [h]

theorem strN_append (a b : List Int) : strN a ++ strN b = strN (a ++ b) := by
  apply ByteArray.ext
  rw [ByteArray.data_append]
  simp [strN]

theorem strN_size (a : List Int) : (strN a).size = a.length := by simp [strN, ByteArray.size]

theorem zeros_ext (k : Nat) (hk : k ≤ 4) : (⟨#[48, 48, 48, 48]⟩ : ByteArray).extract k 4 = strN (List.replicate (4 - k) 48) := by
  rcases k with _|_|_|_|_|k
  all_goals first | (exfalso; omega) | (apply ByteArray.ext; rfl) | decide

set_option maxRecDepth 100000 in
set_option maxHeartbeats 400000 in
theorem gfour (n : Nat) (hn : n < 65536) (w : World) (ht : TzAt w) :
    Calls Tryz.prog 59 #[.float .f64 (fk 0 n)] w fun e w' => e = .returned (.string (strN (fourL n))) ∧ Below w.heap.size w w' := by
  have H := Lib.hid (fmt16 n hn w ht)
  clear ht
  have hc := fun w => run_convert_float_int (P := Tryz.prog) w 52 2 .f64 .i64 (fk 0 n) n (by kernel_rfl) Tryz.underlying2 (by
    unfold floatToIntVal
    rw [show FloatKind.f64.decode (fk 0 n) = Ieee.double.read (fk 0 n) from rfl, toInt_fk _ (by omega)]
    simp only
    rw [if_pos]
    exact ⟨by show (-9223372036854775808 : Int) ≤ n; omega, by show (n : Int) ≤ 9223372036854775807; omega⟩)
  have hl := hexL_le n
  have hz := strN_size (hexL n)
  have HP := Lib.hid (four_pad n hn)
  have HZ := Lib.hid hz
  have hs1 : (strN (hexL n)).size ≤ 4 := by omega
  have hs2 : ((strN (hexL n)).size : Int) ≤ 4 := by omega
  clear hz
  generalize hgs : strN (hexL n) = s at *
  have HS := Lib.hid hgs
  clear hgs
  go_enter Tryz.func59, Tryz.ntmps59
  go_wp2_with fail
  refine H.out.mono ?_
  rintro e w' ⟨rfl, hb⟩
  go_wp2_with fail
  go_ret
  refine ⟨ret_str ?_, hb⟩
  rw [zeros_ext _ hs1, ← HS.out, strN_append, HS.out, HZ.out, HP.out]

/-- A digit out of the reference's text of digits. -/
theorem dgr (d : Nat) (hd : d < 16) (h : d < (⟨#[48, 49, 50, 51, 52, 53, 54, 55, 56, 57, 97, 98, 99, 100, 101, 102]⟩ : ByteArray).size) :
    (((⟨#[48, 49, 50, 51, 52, 53, 54, 55, 56, 57, 97, 98, 99, 100, 101, 102]⟩ : ByteArray)[d]'h).toNat : Int) = dg d := by
  rcases d with _|_|_|_|_|_|_|_|_|_|_|_|_|_|_|_|d
  all_goals first | (exfalso; omega) | rfl

/-- The text of a pair. -/
def textL (p : Int × Int) : List Int := fourL p.1.toNat ++ fourL p.2.toNat

theorem ok_nat {p : Int × Int} (h : Ok p) : ∃ a b : Nat, p = ((a : Int), (b : Int)) ∧ a ≤ 65520 ∧ b ≤ 65520 := by
  unfold Ok at h
  refine ⟨p.1.toNat, p.2.toNat, ?_, by omega, by omega⟩
  ext
  · show p.1 = (p.1.toNat : Int); omega
  · show p.2 = (p.2.toNat : Int); omega

set_option maxRecDepth 100000 in
set_option maxHeartbeats 400000 in
theorem gtext (p : Int × Int) (hp : Ok p) (w : World) (ht : TzAt w) :
    Calls Tryz.prog 40 #[.complex .f64 (fk 0 p.1) (fk 0 p.2)] w fun e w' => e = .returned (.string (strN (textL p))) ∧ Below w.heap.size w w' := by
  have M := Lib.hid (may_gc p hp)
  obtain ⟨a, b, rfl, ha, hb⟩ := ok_nat hp
  have hT : textL ((a : Int), (b : Int)) = fourL a ++ fourL b := rfl
  rw [hT]
  have A1 := Lib.hid (gfour a (by omega) w ht)
  have HT := Lib.hid ht
  clear ht hT hp
  have hm1 : ((strN (fourL a)).size : Int) = 4 := by rw [strN_size]; rfl
  have hm2 : ((strN (fourL b)).size : Int) = 4 := by rw [strN_size]; rfl
  go_enter Tryz.func40, Tryz.ntmps40
  go_wp2_with fail
  refine (M.out _).mono ?_
  rintro e w' ⟨rfl, rfl⟩
  go_wp2_with fail
  refine A1.out.mono ?_
  rintro e w1 ⟨rfl, hb1⟩
  go_wp2_with fail
  refine (gfour b (by omega) w1 (HT.out.below hb1)).mono ?_
  rintro e w2 ⟨rfl, hb2⟩
  go_wp2_with fail
  go_ret
  exact ⟨ret_str (strN_append _ _), hb1.trans (hb2.mono hb1.size)⟩

set_option maxRecDepth 100000 in
set_option maxHeartbeats 400000 in
theorem gtext_not (x y : Nat) (hx : (Ieee.double.read x).isNaN = false) (hy : (Ieee.double.read y).isNaN = false) (h : mayB x y = false) (w : World) :
    Calls Tryz.prog 40 #[.complex .f64 x y] w fun e w' => e = .returned (.string ⟨#[]⟩) ∧ w = w' := by
  have M2 := Lib.hid (may_not x y hx hy h)
  clear h
  go_enter Tryz.func40, Tryz.ntmps40
  go_wp2_with fail
  refine (M2.out _).mono ?_
  rintro e w' ⟨rfl, rfl⟩
  go_wp2_with fail
  go_ret
  exact ⟨rfl, rfl⟩

end Go.Proofs.YtmamepmfbfinlaaGreatDoor
