/-
  LeanWeights answers true.
-/
import Derived.Test.YtmamepmfbfinlaaGreatDoorLnD
namespace Go.Proofs.YtmamepmfbfinlaaGreatDoor
open Go.RowKit Go.Proofs.Cpl

set_option maxRecDepth 100000 in
set_option maxHeartbeats 4000000 in
theorem leanWeights_walk (s : ByteArray) (n : Int) (w : World) (hB : BegunTrue14) (hlib : LibAt w) :
    Calls Tryz.prog 7 #[.string s, .int .i64 n] w fun e w' => e = .returned (.bool true) ∧ Below w.heap.size w w' := by
  have HB := Lib.hid (hB w hlib)
  have HC := Lib.hid (cut_any s 60)
  have hS : (cutS s 60).size ≤ maxLen := by have := cutS_size s 60; unfold maxLen; omega
  generalize cutS s 60 = S at *
  have HL := Lib.hid (lweight_p n S hS)
  have HR := Lib.hid (rweight_p n S hS)
  obtain ⟨X, hX⟩ : ∃ X, wtI (mkI S) n = X := ⟨_, rfl⟩
  have HF : Hid ((1 ≤ n ∧ n ≤ 5) → 0 ≤ X ∧ X ≤ 65520) := Lib.hid (fun h => by rw [← hX]; exact wtI_in h)
  have HG : Hid (¬ (1 ≤ n ∧ n ≤ 5) → X = -1) := Lib.hid (fun h => by rw [← hX]; exact wtI_out h)
  rw [hX] at HL HR
  clear hX hS hB hlib
  by_cases h1 : n < 1
  · obtain rfl : X = -1 := HG.out (by omega)
    go_enter Tryz.func7, Tryz.ntmps7
    go_wp2_with fail
    refine HB.out.mono ?_
    rintro _ w1 ⟨rfl, hb1⟩
    go_wp2_with fail
    refine (HC.out w1).mono ?_
    rintro _ _ ⟨rfl, rfl⟩
    go_wp2_with fail
    refine (HL.out _).mono ?_
    rintro _ w2 ⟨rfl, hb2⟩
    go_wp2_with fail
    refine (HR.out _).mono ?_
    rintro _ w3 ⟨rfl, hb3⟩
    go_wp2_with fail
    go_ret
    exact ⟨rfl, (hb1.trans (hb2.mono hb1.size)).trans (hb3.mono (Nat.le_trans hb1.size hb2.size))⟩
  by_cases h5 : 5 < n
  · obtain rfl : X = -1 := HG.out (by omega)
    go_enter Tryz.func7, Tryz.ntmps7
    go_wp2_with fail
    refine HB.out.mono ?_
    rintro _ w1 ⟨rfl, hb1⟩
    go_wp2_with fail
    refine (HC.out w1).mono ?_
    rintro _ _ ⟨rfl, rfl⟩
    go_wp2_with fail
    refine (HL.out _).mono ?_
    rintro _ w2 ⟨rfl, hb2⟩
    go_wp2_with fail
    refine (HR.out _).mono ?_
    rintro _ w3 ⟨rfl, hb3⟩
    go_wp2_with fail
    go_ret
    exact ⟨rfl, (hb1.trans (hb2.mono hb1.size)).trans (hb3.mono (Nat.le_trans hb1.size hb2.size))⟩
  have hx := HF.out (by omega)
  have x1 : X < 65521 := by omega
  have x2 : -1 ≤ X := by omega
  have x3 : (X == -1) = false := by rw [beq_eq_false_iff_ne]; omega
  have d1 : decide (n < 1) = false := decide_eq_false h1
  have d5 : decide (5 < n) = false := decide_eq_false h5
  clear hx
  go_enter Tryz.func7, Tryz.ntmps7
  go_wp2_with fail
  refine HB.out.mono ?_
  rintro _ w1 ⟨rfl, hb1⟩
  go_wp2_with fail
  refine (HC.out w1).mono ?_
  rintro _ _ ⟨rfl, rfl⟩
  go_wp2_with fail
  refine (HL.out _).mono ?_
  rintro _ w2 ⟨rfl, hb2⟩
  go_wp2_with fail
  refine (HR.out _).mono ?_
  rintro _ w3 ⟨rfl, hb3⟩
  go_wp2_with fail
  go_ret
  exact ⟨rfl, (hb1.trans (hb2.mono hb1.size)).trans (hb3.mono (Nat.le_trans hb1.size hb2.size))⟩

end Go.Proofs.YtmamepmfbfinlaaGreatDoor
