/-
  Contracts of the program, and what they rest on.
-/
import Derived.Test.YtcnbgpgbeibakaaGreatDoorM34
import Derived.Test.YtcnbgpgbeibakaaGreatDoorRChN
namespace Go.Proofs.YtcnbgpgbeibakaaGreatDoor
open Go.RowKit Go.Maps Go.Proofs.MapD Go.Proofs.Chest
theorem isat_one (w : World) (x : Int) : IsAt (w.alloc (.cells #[.int .i64 x] 3)) (.slice (some ⟨w.heap.size, 0, none⟩) 1 1) [x] :=
  .inr ⟨w.heap.size, 0, 1, rfl, by simp, by unfold maxLen; omega, by simp, fun j z hz => by
    match j, hz with
    | 0, hz => simp at hz; subst hz; go_simp
    | j + 1, hz => simp at hz⟩
set_option maxRecDepth 100000 in
set_option maxHeartbeats 8000000 in
theorem chiefLasts_walk (keep : Int) (w : World) (hB : BegunTrue10) (hlib : LibAt w) : Calls Tryz.prog 7 #[.int .i64 keep] w fun e w' => e = .returned (.bool true) ∧ Below w.heap.size w w' := by
  have HB := Lib.hid (hB w hlib)
  have HL := Lib.hid hlib
  have f0 := field0
  have f1 := field1
  clear hB hlib
  go_enter Tryz.func7, Tryz.ntmps7
  go_wp2_with fail
  refine HB.out.mono ?_
  rintro _ w1 ⟨rfl, hb1⟩
  have H1 := Lib.hid ((Sp.start w).below hb1)
  clear hb1 HB
  go_wp2_with fail
  refine (s_new 1048576 H1.out).mono ?_
  rintro _ w2 ⟨c, rfl, h2⟩
  rw [r_new] at h2
  have hi2 := isat_two w2 2 3
  have H2 := Lib.hid ((h2.ixNew ((Below.refl _ _).alloc (Nat.le_refl _) _) hi2 (by intro g hg; cases hg; exact Nat.le_refl _)).swap)
  clear h2 hi2 H1
  go_wp2_with fail
  generalize w2.alloc _ = W2 at *
  refine (open_new H2.out (by decide) (by kernel_rfl) HL.out 0).mono ?_
  rintro _ w3 ⟨x, j, rfl, h3⟩
  have H3 := Lib.hid h3
  clear h3 H2
  go_wp2_with fail
  refine (ck_tear H3.out keep).mono ?_
  rintro _ w4 ⟨d, b4, rs4, v4, v4', rfl, hg4, h4⟩
  have HG := Lib.hid hg4
  have hi4 := isat_one w4 1
  have H4 := Lib.hid ((h4.ixNew ((Below.refl _ _).alloc (Nat.le_refl _) _) hi4 (by intro g hg; cases hg; exact Nat.le_refl _)).swap)
  clear hg4 h4 hi4 H3
  go_wp2_with fail
  generalize w4.alloc _ = W4 at *
  refine (open_last H4.out HG.out.jg HG.out.may HL.out 9 (by decide) (by decide)).mono ?_
  rintro _ w5 ⟨y, jy, rfl, h5⟩
  rw [show (beginS ⟨7, [2, 3], 0⟩ 0 0).r = ⟨7, [2, 3], 0⟩ from rfl, show (9 : Int) + 6 = 15 from rfl] at h5
  obtain ⟨v5, v5', b5, rs5, hg5, hsp5⟩ := h5
  have H5 := Lib.hid hsp5
  clear hg5 hsp5 H4 HG
  go_wp2_with fail
  refine (croster_p H5.out.ck.1 H5.out.ck.2.1 (by decide)).mono ?_
  dsimp only [beginS]
  rintro _ w6 ⟨_, _, rfl, _, hb⟩
  have H6 := Lib.hid (H5.out.below hb)
  clear hb
  go_wp2_with fail
  refine (croster_p H6.out.ck.1 H6.out.ck.2.1 (by decide)).mono ?_
  dsimp only [beginS]
  rintro _ w7 ⟨_, _, rfl, _, hb⟩
  have H7 := Lib.hid (H6.out.below hb)
  clear hb
  go_wp2_with fail
  refine (until_p H7.out.ck.1).mono ?_
  dsimp only [beginS]
  rintro _ _ ⟨rfl, rfl⟩
  go_wp2_with fail
  refine (changing_p H7.out.ck.1).mono ?_
  rw [show (beginS ⟨7, [2, 3], 0⟩ 9 15).chg = false by kernel_rfl]
  rintro _ _ ⟨rfl, rfl⟩
  go_wp2_with fail
  go_ret
  exact ⟨rfl, H7.out.bl⟩
end Go.Proofs.YtcnbgpgbeibakaaGreatDoor
