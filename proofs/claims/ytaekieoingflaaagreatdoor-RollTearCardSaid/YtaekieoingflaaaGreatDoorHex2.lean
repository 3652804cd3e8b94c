/-
  The contracts of gauss.four and gauss.Text, and of the reference's four and Text.
-/
import Derived.Test.YtaekieoingflaaaGreatDoorHex1
import Derived.Test.YtaekieoingflaaaGreatDoorRef2
import Derived.Test.YtaekieoingflaaaGreatDoorGauss2
import Derived.BigRegion
namespace Go.Proofs.YtaekieoingflaaaGreatDoor
open Go.RowKit Go.Proofs.Flo Go.Proofs.Cpl

theorem ret_str {a b : ByteArray} (h : a = b) : Ending.returned (.string a) = .returned (.string b) := by rw [h]

theorem strN_append (a b : List Int) : strN a ++ strN b = strN (a ++ b) := by
  apply ByteArray.ext
  rw [ByteArray.data_append]
  simp [strN]

theorem strN_size (a : List Int) : (strN a).size = a.length := by simp [strN, ByteArray.size]

theorem zeros_ext (k : Nat) (hk : k ≤ 4) : (⟨#[48, 48, 48, 48]⟩ : ByteArray).extract k 4 = strN (List.replicate (4 - k) 48) := by
  rcases k with _|_|_|_|_|k
  all_goals first | (exfalso; omega) | (apply ByteArray.ext; rfl) | decide

set_option maxRecDepth 100000 in
set_option maxHeartbeats 400000 in
theorem gfour (n : Nat) (hn : n < 65536) (w : World) (ht : TzAt w) :
    Calls Tryz.prog 92 #[.float .f64 (fk 0 n)] w fun e w' => e = .returned (.string (strN (fourL n))) ∧ Below w.heap.size w w' := by
  have H := Lib.hid (fmt16 n hn w ht)
  clear ht
  have hc := fun w => run_convert_float_int (P := Tryz.prog) w 135 2 .f64 .i64 (fk 0 n) n (by kernel_rfl) Tryz.underlying2 (by
    unfold floatToIntVal
    rw [show FloatKind.f64.decode (fk 0 n) = Ieee.double.read (fk 0 n) from rfl, toInt_fk _ (by omega)]
    simp only
    rw [if_pos]
    exact ⟨by show (-9223372036854775808 : Int) ≤ n; omega, by show (n : Int) ≤ 9223372036854775807; omega⟩)
  have hl := hexL_le n
  have hz := strN_size (hexL n)
  have HP := Lib.hid (four_pad n hn)
  have HZ := Lib.hid hz
  have hs1 : (strN (hexL n)).size ≤ 4 := by omega
  have hs2 : ((strN (hexL n)).size : Int) ≤ 4 := by omega
  clear hz
  generalize hgs : strN (hexL n) = s at *
  have HS := Lib.hid hgs
  clear hgs
  go_enter Tryz.func92, Tryz.ntmps92
  go_wp2_with fail
  refine H.out.mono ?_
  rintro e w' ⟨rfl, hb⟩
  go_wp2_with fail
  go_ret
  refine ⟨ret_str ?_, hb⟩
  rw [zeros_ext _ hs1, ← HS.out, strN_append, HS.out, HZ.out, HP.out]

/-- A digit out of the reference's text of digits. -/
theorem dgr (d : Nat) (hd : d < 16) (h : d < (⟨#[48, 49, 50, 51, 52, 53, 54, 55, 56, 57, 97, 98, 99, 100, 101, 102]⟩ : ByteArray).size) :
    (((⟨#[48, 49, 50, 51, 52, 53, 54, 55, 56, 57, 97, 98, 99, 100, 101, 102]⟩ : ByteArray)[d]'h).toNat : Int) = dg d := by
  rcases d with _|_|_|_|_|_|_|_|_|_|_|_|_|_|_|_|d
  all_goals first | (exfalso; omega) | rfl

set_option maxRecDepth 100000 in
set_option maxHeartbeats 400000 in
theorem rfour (n : Nat) (hn : n < 65536) (w : World) :
    Calls Tryz.prog 72 #[.int .i64 n] w fun e w' => e = .returned (.string (strN (fourL n))) ∧ Below w.heap.size w w' := by
  have q1 : IntKind.i64.wrap ((n : Int) / 4096) = ((n / 4096 : Nat) : Int) := IntWalk.i64_in _ (by omega)
  have q2 : IntKind.i64.wrap ((n : Int) / 256) = ((n / 256 : Nat) : Int) := IntWalk.i64_in _ (by omega)
  have q3 : IntKind.i64.wrap ((n : Int) / 16) = ((n / 16 : Nat) : Int) := IntWalk.i64_in _ (by omega)
  obtain ⟨a, ha⟩ : ∃ a, n / 4096 % 16 = a := ⟨_, rfl⟩
  obtain ⟨b, hb⟩ : ∃ b, n / 256 % 16 = b := ⟨_, rfl⟩
  obtain ⟨c, hc⟩ : ∃ c, n / 16 % 16 = c := ⟨_, rfl⟩
  obtain ⟨d, hd⟩ : ∃ d, n % 16 = d := ⟨_, rfl⟩
  have r1 : ((n / 4096 : Nat) : Int).tmod 16 = (a : Int) := by rw [Int.tmod_eq_emod_of_nonneg (by omega)]; omega
  have r2 : ((n / 256 : Nat) : Int).tmod 16 = (b : Int) := by rw [Int.tmod_eq_emod_of_nonneg (by omega)]; omega
  have r3 : ((n / 16 : Nat) : Int).tmod 16 = (c : Int) := by rw [Int.tmod_eq_emod_of_nonneg (by omega)]; omega
  have r4 : (n : Int).tmod 16 = (d : Int) := by rw [Int.tmod_eq_emod_of_nonneg (by omega)]; omega
  have HF : Hid (fourL n = [dg a, dg b, dg c, dg d]) := Lib.hid (by unfold fourL; rw [ha, hb, hc, hd])
  have ba : (0 : Int) ≤ (a : Int) ∧ (a : Int) < 16 := by omega
  have bb : (0 : Int) ≤ (b : Int) ∧ (b : Int) < 16 := by omega
  have bc : (0 : Int) ≤ (c : Int) ∧ (c : Int) < 16 := by omega
  have bd : (0 : Int) ≤ (d : Int) ∧ (d : Int) < 16 := by omega
  generalize n / 4096 = n1 at *
  generalize n / 256 = n2 at *
  generalize n / 16 = n3 at *
  clear ha hb hc hd hn
  go_enter Tryz.func72, Tryz.ntmps72
  go_wp2_with fail
  refine wp_region_still_tail 19 (by kernel_rfl) (by kernel_rfl) ?_
  simp only [List.take_succ_cons, List.take_zero, List.drop_succ_cons, List.drop_zero]
  repeat still_step
  refine wpStill_nil ?_
  change wpList _ _ _ _ _ w.drew
  obtain ⟨w2, hw2⟩ : ∃ w2, w.drew = w2 := ⟨_, rfl⟩
  have hb2 : Below w.heap.size w w2 := by rw [← hw2]; exact (Below.refl _ _).drew
  rw [hw2]
  have hsz : w.heap.size ≤ w2.heap.size := hb2.size
  clear hw2
  rw [dgr a (by omega), dgr b (by omega), dgr c (by omega), dgr d (by omega)]
  have hcv := conv_bytes (w2.alloc (.cells #[.int .u8 (dg a), .int .u8 (dg b), .int .u8 (dg c), .int .u8 (dg d)] 5)) w2.heap.size 0 4 [dg a, dg b, dg c, dg d] (by
    intro i v hv
    rcases i with _|_|_|_|i
    · simp at hv; subst hv; go_simp
    · simp at hv; subst hv; go_simp
    · simp at hv; subst hv; go_simp
    · simp at hv; subst hv; go_simp
    · simp at hv)
  rw [show [dg a, dg b, dg c, dg d].length = 4 from rfl] at hcv
  go_wp2_with fail
  go_ret
  exact ⟨ret_str (by rw [HF.out]), hb2.alloc hsz _⟩


/-- The text of a pair. -/
def textL (p : Int × Int) : List Int := fourL p.1.toNat ++ fourL p.2.toNat

theorem ok_nat {p : Int × Int} (h : Ok p) : ∃ a b : Nat, p = ((a : Int), (b : Int)) ∧ a ≤ 65520 ∧ b ≤ 65520 := by
  unfold Ok at h
  refine ⟨p.1.toNat, p.2.toNat, ?_, by omega, by omega⟩
  ext
  · show p.1 = (p.1.toNat : Int); omega
  · show p.2 = (p.2.toNat : Int); omega

set_option maxRecDepth 100000 in
set_option maxHeartbeats 400000 in
theorem gtext (p : Int × Int) (hp : Ok p) (w : World) (ht : TzAt w) :
    Calls Tryz.prog 77 #[.complex .f64 (fk 0 p.1) (fk 0 p.2)] w fun e w' => e = .returned (.string (strN (textL p))) ∧ Below w.heap.size w w' := by
  have M := Lib.hid (may_gc p hp)
  obtain ⟨a, b, rfl, ha, hb⟩ := ok_nat hp
  have hT : textL ((a : Int), (b : Int)) = fourL a ++ fourL b := rfl
  rw [hT]
  have A1 := Lib.hid (gfour a (by omega) w ht)
  have HT := Lib.hid ht
  clear ht hT hp
  have hm1 : ((strN (fourL a)).size : Int) = 4 := by rw [strN_size]; rfl
  have hm2 : ((strN (fourL b)).size : Int) = 4 := by rw [strN_size]; rfl
  go_enter Tryz.func77, Tryz.ntmps77
  go_wp2_with fail
  refine (M.out _).mono ?_
  rintro e w' ⟨rfl, rfl⟩
  go_wp2_with fail
  refine A1.out.mono ?_
  rintro e w1 ⟨rfl, hb1⟩
  go_wp2_with fail
  refine (gfour b (by omega) w1 (HT.out.below hb1)).mono ?_
  rintro e w2 ⟨rfl, hb2⟩
  go_wp2_with fail
  go_ret
  exact ⟨ret_str (strN_append _ _), hb1.trans (hb2.mono hb1.size)⟩

set_option maxRecDepth 100000 in
set_option maxHeartbeats 400000 in
theorem gtext_not (x y : Nat) (hx : (Ieee.double.read x).isNaN = false) (hy : (Ieee.double.read y).isNaN = false) (h : mayB x y = false) (w : World) :
    Calls Tryz.prog 77 #[.complex .f64 x y] w fun e w' => e = .returned (.string ⟨#[]⟩) ∧ w = w' := by
  have M2 := Lib.hid (may_not x y hx hy h)
  clear h
  go_enter Tryz.func77, Tryz.ntmps77
  go_wp2_with fail
  refine (M2.out _).mono ?_
  rintro e w' ⟨rfl, rfl⟩
  go_wp2_with fail
  go_ret
  exact ⟨rfl, rfl⟩

set_option maxRecDepth 100000 in
set_option maxHeartbeats 800000 in
theorem rtext (p : Int × Int) (hp : Ok p) (w : World) :
    Calls Tryz.prog 54 #[.agg #[.int .i64 p.1, .int .i64 p.2]] w fun e w' => e = .returned (.string (strN (textL p))) ∧ Below w.heap.size w w' := by
  obtain ⟨a, b, rfl, ha, hb⟩ := ok_nat hp
  have hT : textL ((a : Int), (b : Int)) = fourL a ++ fourL b := rfl
  rw [hT]
  clear hT hp
  have hn := At.new w (a : Int) (b : Int) 87
  have HB : Hid (Below w.heap.size w (w.alloc (.cells #[.int .i64 a, .int .i64 b] 87))) := Lib.hid ((Below.refl _ _).alloc (Nat.le_refl _) _)
  go_enter Tryz.func54, Tryz.ntmps54
  go_wp2_with fail
  generalize w.alloc (.cells #[.int .i64 (a : Int), .int .i64 (b : Int)] 87) = W at *
  have HN := Lib.hid hn
  obtain ⟨⟨f0, f1⟩, _, _⟩ := hn
  have hm1 : ((strN (fourL a)).size : Int) = 4 := by rw [strN_size]; rfl
  have hm2 : ((strN (fourL b)).size : Int) = 4 := by rw [strN_size]; rfl
  go_region_with (first
    | (go_at_call_of 72 (Value.int .i64 (a : Int)); refine (rfour a (by omega) _).mono ?_; rintro e w1 ⟨rfl, hb1⟩; have hn1 := HN.out.drew.below hb1; have HN1 := Lib.hid hn1; obtain ⟨⟨g0, g1⟩, _, _⟩ := hn1)
    | (go_at_call_of 72 (Value.int .i64 (b : Int)); refine (rfour b (by omega) _).mono ?_; rintro e w2 ⟨rfl, hb2⟩))
  all_goals
    go_wp2_with fail
    go_ret
    exact ⟨ret_str (strN_append _ _), (HB.out.drew.trans (hb1.mono HB.out.size)).trans (hb2.mono (Nat.le_trans HB.out.size hb1.size))⟩

end Go.Proofs.YtaekieoingflaaaGreatDoor
