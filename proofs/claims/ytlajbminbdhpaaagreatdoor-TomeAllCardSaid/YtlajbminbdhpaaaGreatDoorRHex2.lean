/-
 Contracts of the program, and what they rest on.
-/
import Derived.Test.YtlajbminbdhpaaaGreatDoorM03
import Derived.BigRegion
import Derived.Test.YtlajbminbdhpaaaGreatDoorRRef2
set_option maxRecDepth 100000
set_option maxHeartbeats 16000000
namespace Go.Proofs.YtlajbminbdhpaaaGreatDoor
open Go.RowKit Go.Proofs.Flo Go.Proofs.Cpl
theorem dgr (d : Nat) (hd : d < 16) (h : d < (⟨#[48, 49, 50, 51, 52, 53, 54, 55, 56, 57, 97, 98, 99, 100, 101, 102]⟩ : ByteArray).size) :
  (((⟨#[48, 49, 50, 51, 52, 53, 54, 55, 56, 57, 97, 98, 99, 100, 101, 102]⟩ : ByteArray)[d]'h).toNat : Int) = dg d := by
 rcases d with _|_|_|_|_|_|_|_|_|_|_|_|_|_|_|_|d
 all_goals first | (exfalso; omega) | rfl
theorem rfour (n : Nat) (hn : n < 65536) (w : World) :
  Calls Tryz.prog 122 #[.int .i64 n] w fun e w' => e = .returned (.string (strN (fourL n))) ∧ Below w.heap.size w w' := by
 have q1 : IntKind.i64.wrap ((n : Int) / 4096) = ((n / 4096 : Nat) : Int) := IntWalk.i64_in _ (by omega)
 have q2 : IntKind.i64.wrap ((n : Int) / 256) = ((n / 256 : Nat) : Int) := IntWalk.i64_in _ (by omega)
 have q3 : IntKind.i64.wrap ((n : Int) / 16) = ((n / 16 : Nat) : Int) := IntWalk.i64_in _ (by omega)
 obtain ⟨a, ha⟩ : ∃ a, n / 4096 % 16 = a := ⟨_, rfl⟩
 obtain ⟨b, hb⟩ : ∃ b, n / 256 % 16 = b := ⟨_, rfl⟩
 obtain ⟨c, hc⟩ : ∃ c, n / 16 % 16 = c := ⟨_, rfl⟩
 obtain ⟨d, hd⟩ : ∃ d, n % 16 = d := ⟨_, rfl⟩
 have r1 : ((n / 4096 : Nat) : Int).tmod 16 = (a : Int) := by rw [Int.tmod_eq_emod_of_nonneg (by omega)]; omega
 have r2 : ((n / 256 : Nat) : Int).tmod 16 = (b : Int) := by rw [Int.tmod_eq_emod_of_nonneg (by omega)]; omega
 have r3 : ((n / 16 : Nat) : Int).tmod 16 = (c : Int) := by rw [Int.tmod_eq_emod_of_nonneg (by omega)]; omega
 have r4 : (n : Int).tmod 16 = (d : Int) := by rw [Int.tmod_eq_emod_of_nonneg (by omega)]; omega
 have HF : Hid (fourL n = [dg a, dg b, dg c, dg d]) := Lib.hid (by unfold fourL; rw [ha, hb, hc, hd])
 have ba : (0 : Int) ≤ (a : Int) ∧ (a : Int) < 16 := by omega
 have bb : (0 : Int) ≤ (b : Int) ∧ (b : Int) < 16 := by omega
 have bc : (0 : Int) ≤ (c : Int) ∧ (c : Int) < 16 := by omega
 have bd : (0 : Int) ≤ (d : Int) ∧ (d : Int) < 16 := by omega
 generalize n / 4096 = n1 at *
 generalize n / 256 = n2 at *
 generalize n / 16 = n3 at *
 clear ha hb hc hd hn
 go_enter Tryz.func122, Tryz.ntmps122
 go_wp2_with fail
 refine wp_region_still_tail 19 (by kernel_rfl) (by kernel_rfl) ?_
 simp only [List.take_succ_cons, List.take_zero, List.drop_succ_cons, List.drop_zero]
 repeat still_step
 refine wpStill_nil ?_
 change wpList _ _ _ _ _ w.drew
 obtain ⟨w2, hw2⟩ : ∃ w2, w.drew = w2 := ⟨_, rfl⟩
 have hb2 : Below w.heap.size w w2 := by rw [← hw2]; exact (Below.refl _ _).drew
 rw [hw2]
 have hsz : w.heap.size ≤ w2.heap.size := hb2.size
 clear hw2
 rw [dgr a (by omega), dgr b (by omega), dgr c (by omega), dgr d (by omega)]
 have hcv := conv_bytes (w2.alloc (.cells #[.int .u8 (dg a), .int .u8 (dg b), .int .u8 (dg c), .int .u8 (dg d)] 5)) w2.heap.size 0 4 [dg a, dg b, dg c, dg d] (by
  intro i v hv
  rcases i with _|_|_|_|i
  ·simp at hv; subst hv; go_simp
  ·simp at hv; subst hv; go_simp
  ·simp at hv; subst hv; go_simp
  ·simp at hv; subst hv; go_simp
  ·simp at hv)
 rw [show [dg a, dg b, dg c, dg d].length = 4 from rfl] at hcv
 go_wp2_with fail
 go_ret
 exact ⟨ret_str (by rw [HF.out]), hb2.alloc hsz _⟩
theorem rtext (p : Int × Int) (hp : Ok p) (w : World) :
  Calls Tryz.prog 73 #[.agg #[.int .i64 p.1, .int .i64 p.2]] w fun e w' => e = .returned (.string (strN (textL p))) ∧ Below w.heap.size w w' := by
 obtain ⟨a, b, rfl, ha, hb⟩ := ok_nat hp
 have hT : textL ((a : Int), (b : Int)) = fourL a ++ fourL b := rfl
 rw [hT]
 clear hT hp
 have hn := At.new w (a : Int) (b : Int) 114
 have HB : Hid (Below w.heap.size w (w.alloc (.cells #[.int .i64 a, .int .i64 b] 114))) := Lib.hid ((Below.refl _ _).alloc (Nat.le_refl _) _)
 go_enter Tryz.func73, Tryz.ntmps73
 go_wp2_with fail
 generalize w.alloc (.cells #[.int .i64 (a : Int), .int .i64 (b : Int)] 114) = W at *
 have HN := Lib.hid hn
 obtain ⟨⟨f0, f1⟩, _, _⟩ := hn
 have hm1 : ((strN (fourL a)).size : Int) = 4 := by rw [strN_size]; rfl
 have hm2 : ((strN (fourL b)).size : Int) = 4 := by rw [strN_size]; rfl
 go_region_with (first
  | (go_at_call_of 122 (Value.int .i64 (a : Int)); refine (rfour a (by omega) _).mono ?_; rintro e w1 ⟨rfl, hb1⟩; have hn1 := HN.out.drew.below hb1; have HN1 := Lib.hid hn1; obtain ⟨⟨g0, g1⟩, _, _⟩ := hn1)
  | (go_at_call_of 122 (Value.int .i64 (b : Int)); refine (rfour b (by omega) _).mono ?_; rintro e w2 ⟨rfl, hb2⟩))
 all_goals
  go_wp2_with fail
  go_ret
  exact ⟨ret_str (strN_append _ _), (HB.out.drew.trans (hb1.mono HB.out.size)).trans (hb2.mono (Nat.le_trans HB.out.size hb1.size))⟩
end Go.Proofs.YtlajbminbdhpaaaGreatDoor
