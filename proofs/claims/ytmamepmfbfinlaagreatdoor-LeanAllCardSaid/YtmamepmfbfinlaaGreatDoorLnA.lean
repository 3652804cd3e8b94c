/-
  The contracts of lean's mark, weight, Weight; the reference's Weight.
-/
import Derived.Test.YtmamepmfbfinlaaGreatDoorLnP
import Derived.Test.YtmamepmfbfinlaaGreatDoorMark
namespace Go.Proofs.YtmamepmfbfinlaaGreatDoor
open Go.RowKit Go.Proofs.Flo Go.Proofs.Cpl Go.Sort

/-- The mark of a key. -/
def mkI (s : ByteArray) : Int × Int := gon (0, 1) s.data.toList

theorem ok_mkI (s : ByteArray) : Ok (mkI s) := ok_gon ok_i _

theorem fk_two : fk 0 2 = 4611686018427387904 := by decide

theorem ok_21 : Ok (2, 1) := by unfold Ok; decide

set_option maxRecDepth 100000 in
set_option maxHeartbeats 1000000 in
theorem lmark_p (s : ByteArray) (hs : s.size ≤ maxLen) (w : World) :
    Calls Tryz.prog 24 #[.string s] w fun e w' => e = .returned (gc (mkI s)) ∧ Below w.heap.size w w' := by
  have v1 := conv_str s
  obtain ⟨G, hG⟩ : ∃ G, mkI s = G := ⟨_, rfl⟩
  rw [hG]
  have M1 := Lib.hid (fun b n cap hn => mark_str s b n cap G hG hn hs)
  have HB := Lib.hid (Lib.bytesWorld_below w 5 s)
  unfold gc
  clear hG hs
  go_enter Tryz.func24, Tryz.ntmps24
  go_wp2_with fail
  refine (M1.out w.heap.size _ _ rfl _ (bytesAt_str _ _ _)).mono ?_
  rintro _ w' ⟨rfl, rfl⟩
  go_wp2_with fail
  go_ret
  exact ⟨rfl, HB.out⟩

theorem pow21 (n : Nat) (hn : n ≤ 1000) (w : World) : Calls Tryz.prog 33 #[.complex .f64 4611686018427387904 4607182418800017408, .int .i64 (n : Int)] w fun e w' => e = .returned (.complex .f64 (fk 0 (gpow (2, 1) n).1) (fk 0 (gpow (2, 1) n).2)) ∧ w = w' := by
  have h := pow_gc (2, 1) n ok_21 (by omega) w
  simp only [fk_two, fk_one] at h
  exact h

set_option maxRecDepth 100000 in
set_option maxHeartbeats 1000000 in
theorem weight_p (z : Int × Int) (hz : Ok z) (n : Int) (w : World) :
    Calls Tryz.prog 23 #[.int .i64 n, .complex .f64 (fk 0 z.1) (fk 0 z.2)] w fun e w' => e = .returned (.int .i64 (wtI z n)) ∧ w = w' := by
  by_cases h1 : n < 1
  · have hw : wtI z n = -1 := wtI_out (by omega)
    rw [hw]
    clear hw
    go_enter Tryz.func23, Tryz.ntmps23
    go_wp2_with fail
    go_ret
    exact ⟨rfl, rfl⟩
  by_cases h5 : 5 < n
  · have hw : wtI z n = -1 := wtI_out (by omega)
    rw [hw]
    clear hw
    go_enter Tryz.func23, Tryz.ntmps23
    go_wp2_with fail
    go_ret
    exact ⟨rfl, rfl⟩
  obtain ⟨k, rfl⟩ : ∃ k : Nat, n = (k : Int) := ⟨n.toNat, by omega⟩
  have hk1 : 1 ≤ k := by omega
  have hk5 : k ≤ 5 := by omega
  have hwt : wtI z (k : Int) = (gmul z (gpow (2, 1) (7 * k))).1 := by
    unfold wtI
    rw [if_pos (by omega), Int.toNat_natCast]
  have h7 : IntKind.i64.wrap (7 * (k : Int)) = ((7 * k : Nat) : Int) := by
    rw [IntWalk.i64_in _ (by omega)]
    omega
  have HP := Lib.hid (pow21 (7 * k) (by omega) w)
  have hp := ok_gpow (2, 1) (7 * k)
  generalize gpow (2, 1) (7 * k) = p at *
  have HM := Lib.hid (mul_gc z p hz hp w)
  have hg := ok_gmul z p
  generalize gmul z p = q at *
  have hcv := fun w => run_convert_float_int (P := Tryz.prog) w 52 3 .f64 .i64 (fk 0 q.1) q.1 (by kernel_rfl) Tryz.underlying3 (by
    unfold Ok at hg
    unfold floatToIntVal
    rw [show FloatKind.f64.decode (fk 0 q.1) = Ieee.double.read (fk 0 q.1) from rfl, toInt_fk _ (by omega)]
    simp only
    rw [if_pos]
    exact ⟨by show (-9223372036854775808 : Int) ≤ q.1; omega, by show q.1 ≤ 9223372036854775807; omega⟩)
  rw [hwt]
  try unfold gc at HM
  clear hwt hp hg hk1 hk5
  go_enter Tryz.func23, Tryz.ntmps23
  go_wp2_with fail
  refine HP.out.mono ?_
  rintro _ _ ⟨rfl, rfl⟩
  go_wp2_with fail
  refine HM.out.mono ?_
  rintro _ _ ⟨rfl, rfl⟩
  go_wp2_with fail
  go_ret
  exact ⟨rfl, rfl⟩

set_option maxRecDepth 100000 in
set_option maxHeartbeats 1000000 in
theorem lweight_p (n : Int) (s : ByteArray) (hs : s.size ≤ maxLen) (w : World) :
    Calls Tryz.prog 14 #[.int .i64 n, .string s] w fun e w' => e = .returned (.int .i64 (wtI (mkI s) n)) ∧ Below w.heap.size w w' := by
  have HM := Lib.hid (lmark_p s hs w)
  have hz := ok_mkI s
  generalize mkI s = z at *
  have HW := Lib.hid (weight_p z hz n)
  try unfold gc at HM
  clear hz hs
  go_enter Tryz.func14, Tryz.ntmps14
  go_wp2_with fail
  refine HM.out.mono ?_
  rintro _ w1 ⟨rfl, hb⟩
  go_wp2_with fail
  refine (HW.out w1).mono ?_
  rintro _ _ ⟨rfl, rfl⟩
  go_wp2_with fail
  go_ret
  exact ⟨rfl, hb⟩

theorem zfield (a b : Int) (W : World) : (Instr.field 46 (.agg #[.int .i64 a, .int .i64 b]) 0).run Tryz.prog W = .ok (.int .i64 a) W := by kernel_rfl

set_option maxRecDepth 100000 in
set_option maxHeartbeats 1000000 in
/-- The reference's Weight. -/
theorem rweight_p (n : Int) (s : ByteArray) (hs : s.size ≤ maxLen) (w : World) :
    Calls Tryz.prog 15 #[.int .i64 n, .string s] w fun e w' => e = .returned (.int .i64 (wtI (mkI s) n)) ∧ Below w.heap.size w w' := by
  by_cases h1 : n < 1
  · have hw : wtI (mkI s) n = -1 := wtI_out (by omega)
    rw [hw]
    clear hw
    go_enter Tryz.func15, Tryz.ntmps15
    go_wp2_with fail
    go_ret
    exact ⟨rfl, Below.refl _ _⟩
  by_cases h5 : 5 < n
  · have hw : wtI (mkI s) n = -1 := wtI_out (by omega)
    rw [hw]
    clear hw
    go_enter Tryz.func15, Tryz.ntmps15
    go_wp2_with fail
    go_ret
    exact ⟨rfl, Below.refl _ _⟩
  obtain ⟨k, rfl⟩ : ∃ k : Nat, n = (k : Int) := ⟨n.toNat, by omega⟩
  have hk1 : 1 ≤ k := by omega
  have hk5 : k ≤ 5 := by omega
  have hwt : wtI (mkI s) (k : Int) = (gmul (mkI s) (gpow (2, 1) (7 * k))).1 := by
    unfold wtI
    rw [if_pos (by omega), Int.toNat_natCast]
  have h7 : IntKind.i64.wrap (7 * (k : Int)) = ((7 * k : Nat) : Int) := by
    rw [IntWalk.i64_in _ (by omega)]
    omega
  have HR := Lib.hid (rmark_str s _ rfl hs w)
  rw [hwt]
  unfold mkI
  have hz : Ok (gon (0, 1) s.data.toList) := ok_gon ok_i _
  generalize gon (0, 1) s.data.toList = z at *
  have HP := Lib.hid (rpow_any (2, 1) (7 * k) ok_21 (by omega))
  have hp := ok_gpow (2, 1) (7 * k)
  generalize gpow (2, 1) (7 * k) = p at *
  have HM := Lib.hid (rmul_pq z p hz hp)
  generalize gmul z p = q at *
  try unfold pq pz at HP
  try unfold pq pz at HM
  have f0 := zfield q.1 q.2
  clear hwt hp hz hk1 hk5 hs
  go_enter Tryz.func15, Tryz.ntmps15
  go_wp2_with fail
  refine HR.out.mono ?_
  rintro _ w1 ⟨rfl, hb1⟩
  go_wp2_with fail
  refine (HP.out w1).mono ?_
  rintro _ w2 ⟨rfl, hb2⟩
  go_wp2_with fail
  refine (HM.out w2).mono ?_
  rintro _ w3 ⟨rfl, hb3⟩
  go_wp2_with fail
  go_ret
  exact ⟨rfl, (hb1.trans (hb2.mono hb1.size)).trans (hb3.mono (Nat.le_trans hb1.size hb2.size))⟩

end Go.Proofs.YtmamepmfbfinlaaGreatDoor
