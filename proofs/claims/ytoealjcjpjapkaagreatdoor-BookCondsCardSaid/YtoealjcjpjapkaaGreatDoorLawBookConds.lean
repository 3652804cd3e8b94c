/-
  BookConds answers true.
-/
import Derived.Test.YtoealjcjpjapkaaGreatDoorLbC
import Derived.Test.YtoealjcjpjapkaaGreatDoorLbcP
import Derived.Test.YtoealjcjpjapkaaGreatDoorRA
import Derived.Test.YtoealjcjpjapkaaGreatDoorM04
import Derived.Test.YtoealjcjpjapkaaGreatDoorM03
import Derived.Test.YtoealjcjpjapkaaGreatDoorM14
namespace Go.Proofs.YtoealjcjpjapkaaGreatDoor
open Go.RowKit


set_option maxRecDepth 100000 in
set_option maxHeartbeats 16000000 in
theorem conds_z (body tag : ByteArray) (gone : Bool) (w : World) (hbg : Begun5True) (h : LibAt w) :
    Calls Tryz.prog 7 #[.string body, .string tag, .bool gone, .bool false] w fun e w' => e = .returned (.bool true) ∧ Below w.heap.size w w' := by
  have HB := Lib.hid (hbg w h)
  have HL := Lib.hid h
  have C1 := Lib.hid (cut_any body 60)
  have C2 := Lib.hid (cut_any tag 60)
  have hs1 := cutS_size body 60
  have hs2 := cutS_size tag 60
  generalize cutS body 60 = B at *
  generalize cutS tag 60 = T at *
  have hB3 : B.size ≤ 300 := by omega
  have R1 := Lib.hid (fun W => rtag_p B (by omega) W)
  have R2 := Lib.hid (fun W => rtag_p T (by omega) W)
  have I1 := tag_isText B
  have I2 := tag_isText T
  have HDA := Lib.hid (fun u v W E (h : SB w W E Bk.zero u v) => do_at cda h bgz_wf.wf cda_wf cda_may rfl (.inl rfl))
  have eA := cz_abs
  have HDB := Lib.hid (fun u v W E (h : SB w W E Bk.zero u v) => do_at (cdm (tagS B)) h bgz_wf.wf (cdm_wf _) (cdm_may I1) rfl (.inl rfl))
  have eB := cz_mat (tagS B)
  have HDC := Lib.hid (fun u v W E (h : SB w W E Bk.zero u v) => do_at (cdm (tagS T)) h bgz_wf.wf (cdm_wf _) (cdm_may I2) rfl (.inl rfl))
  have eC := cz_mat (tagS T)
  generalize doB Bk.zero cda true = rA at *
  obtain ⟨sA, rA⟩ := rA
  dsimp only at eA
  subst eA
  generalize doB Bk.zero (cdm (tagS B)) true = rB at *
  obtain ⟨sB, rB⟩ := rB
  dsimp only at eB
  subst eB
  generalize doB Bk.zero (cdm (tagS T)) true = rC at *
  obtain ⟨sC, rC⟩ := rC
  dsimp only at eC
  subst eC
  clear I1 I2 hbg h
  generalize tagS B = G at *
  generalize tagS T = KT at *
  unfold DoAns bagg dagg at *
  dsimp only [cda, cdm, cdp, bd1, cs1, cs2, Bk.zero, List.length] at HDA HDB HDC
  go_enter Tryz.func7, Tryz.ntmps7
  go_wp2_with fail
  refine HB.out.mono ?_
  rintro _ w0 ⟨rfl, hb⟩
  have HS := Lib.hid (SB.new HL.out hb)
  clear hb HB
  go_wp2_with fail
  refine (C1.out _).mono ?_
  rintro _ _ ⟨rfl, rfl⟩
  go_wp2_with fail
  generalize w0.alloc (.cells #[.int .i64 0, .slice none 0 0, .slice none 0 0, .int .i64 0, .int .i64 0, .int .i64 0, .int .i64 0, .int .i64 0] 78) = W0 at *
  generalize w0.heap.size = E at *
  --TAG
  refine (R1.out _).mono ?_
  rintro _ w4 ⟨rfl, hb⟩
  replace HS := Lib.hid (HS.out.below hb)
  clear hb
  have hq := HS.out.bc.cells
  dsimp only [Bk.zero] at hq
  obtain ⟨q0, q1, q2, q3, q4, q5, q6, q7⟩ := hq
  have ql := HS.out.bc.lt
  go_wp2_with fail
  refine (HDA.out _ _ _ _ HS.out).mono ?_
  rintro _ v0 ⟨aA, cA, bA, dA, rfl, -, -, hb⟩
  clear q0 q1 q2 q3 q4 q5 q6 q7 ql
  replace HS := Lib.hid (HS.out.below hb)
  clear hb
  have hq := HS.out.bc.cells
  dsimp only [Bk.zero] at hq
  obtain ⟨q0, q1, q2, q3, q4, q5, q6, q7⟩ := hq
  have ql := HS.out.bc.lt
  have hb := two_boxes v0 #[.int .i64 sA.seq, .slice aA sA.l.length cA, .slice bA sA.ms.length dA, .int .i64 sA.l1, .int .i64 sA.l2, .int .i64 sA.l3, .int .i64 sA.l4, .int .i64 sA.l5] #[.int .i64 0, .int .i64 1] 78 80
  have rA : Hid (RC ((v0.alloc (.cells #[.int .i64 sA.seq, .slice aA sA.l.length cA, .slice bA sA.ms.length dA, .int .i64 sA.l1, .int .i64 sA.l2, .int .i64 sA.l3, .int .i64 sA.l4, .int .i64 sA.l5] 78)).alloc (.cells #[.int .i64 0, .int .i64 1] 80)) (v0.heap.size + 1) ⟨0, 1⟩) := Lib.hid (rc_two v0 #[.int .i64 sA.seq, .slice aA sA.l.length cA, .slice bA sA.ms.length dA, .int .i64 sA.l1, .int .i64 sA.l2, .int .i64 sA.l3, .int .i64 sA.l4, .int .i64 sA.l5] 78 ⟨0, 1⟩)
  replace HS := Lib.hid (HS.out.below hb)
  clear hb
  go_wp2_with fail
  generalize ((v0.alloc (.cells #[.int .i64 sA.seq, .slice aA sA.l.length cA, .slice bA sA.ms.length dA, .int .i64 sA.l1, .int .i64 sA.l2, .int .i64 sA.l3, .int .i64 sA.l4, .int .i64 sA.l5] 78)).alloc (.cells #[.int .i64 0, .int .i64 1] 80)) = W0 at *
  generalize v0.heap.size + 1 = X0 at *
  clear q0 q1 q2 q3 q4 q5 q6 q7 ql
  refine (HDB.out _ _ _ _ HS.out).mono ?_
  rintro _ v1 ⟨aB, cB, bB, dB, rfl, -, -, hb⟩
  replace HS := Lib.hid (HS.out.below hb)
  replace rA := Lib.hid (rA.out.below hb)
  clear hb
  have hq := HS.out.bc.cells
  dsimp only [Bk.zero] at hq
  obtain ⟨q0, q1, q2, q3, q4, q5, q6, q7⟩ := hq
  have ql := HS.out.bc.lt
  have hb := two_boxes v1 #[.int .i64 sB.seq, .slice aB sB.l.length cB, .slice bB sB.ms.length dB, .int .i64 sB.l1, .int .i64 sB.l2, .int .i64 sB.l3, .int .i64 sB.l4, .int .i64 sB.l5] #[.int .i64 9, .int .i64 0] 78 80
  have rB : Hid (RC ((v1.alloc (.cells #[.int .i64 sB.seq, .slice aB sB.l.length cB, .slice bB sB.ms.length dB, .int .i64 sB.l1, .int .i64 sB.l2, .int .i64 sB.l3, .int .i64 sB.l4, .int .i64 sB.l5] 78)).alloc (.cells #[.int .i64 9, .int .i64 0] 80)) (v1.heap.size + 1) ⟨9, 0⟩) := Lib.hid (rc_two v1 #[.int .i64 sB.seq, .slice aB sB.l.length cB, .slice bB sB.ms.length dB, .int .i64 sB.l1, .int .i64 sB.l2, .int .i64 sB.l3, .int .i64 sB.l4, .int .i64 sB.l5] 78 ⟨9, 0⟩)
  replace HS := Lib.hid (HS.out.below hb)
  replace rA := Lib.hid (rA.out.below hb)
  clear hb
  go_wp2_with fail
  generalize ((v1.alloc (.cells #[.int .i64 sB.seq, .slice aB sB.l.length cB, .slice bB sB.ms.length dB, .int .i64 sB.l1, .int .i64 sB.l2, .int .i64 sB.l3, .int .i64 sB.l4, .int .i64 sB.l5] 78)).alloc (.cells #[.int .i64 9, .int .i64 0] 80)) = W1 at *
  generalize v1.heap.size + 1 = X1 at *
  clear q0 q1 q2 q3 q4 q5 q6 q7 ql
  refine (C2.out _).mono ?_
  rintro _ _ ⟨rfl, rfl⟩
  go_wp2_with fail
  refine (R2.out _).mono ?_
  rintro _ w7 ⟨rfl, hb⟩
  replace HS := Lib.hid (HS.out.below hb)
  replace rA := Lib.hid (rA.out.below hb)
  replace rB := Lib.hid (rB.out.below hb)
  clear hb
  have hq := HS.out.bc.cells
  dsimp only [Bk.zero] at hq
  obtain ⟨q0, q1, q2, q3, q4, q5, q6, q7⟩ := hq
  have ql := HS.out.bc.lt
  go_wp2_with fail
  refine (HDC.out _ _ _ _ HS.out).mono ?_
  rintro _ v2 ⟨aC, cC, bC, dC, rfl, -, -, hb⟩
  clear q0 q1 q2 q3 q4 q5 q6 q7 ql
  replace HS := Lib.hid (HS.out.below hb)
  replace rA := Lib.hid (rA.out.below hb)
  replace rB := Lib.hid (rB.out.below hb)
  clear hb
  have hq := HS.out.bc.cells
  dsimp only [Bk.zero] at hq
  obtain ⟨q0, q1, q2, q3, q4, q5, q6, q7⟩ := hq
  have ql := HS.out.bc.lt
  obtain ⟨rA0, rA1, -, -⟩ := rA.out.facts
  dsimp only at rA0 rA1
  have rAl := rA.out.lt
  obtain ⟨rB0, rB1, -, -⟩ := rB.out.facts
  dsimp only at rB0 rB1
  have rBl := rB.out.lt
  have hb := two_boxes v2 #[.int .i64 sC.seq, .slice aC sC.l.length cC, .slice bC sC.ms.length dC, .int .i64 sC.l1, .int .i64 sC.l2, .int .i64 sC.l3, .int .i64 sC.l4, .int .i64 sC.l5] #[.int .i64 9, .int .i64 0] 78 80
  replace HS := Lib.hid (HS.out.below hb)
  clear hb rA rB
  go_wp2_with fail
  go_ret
  exact ⟨rfl, HS.out.bl⟩

set_option maxRecDepth 100000 in
set_option maxHeartbeats 16000000 in
theorem conds_2 (body tag : ByteArray) (w : World) (hbg : Begun5True) (h : LibAt w) :
    Calls Tryz.prog 7 #[.string body, .string tag, .bool true, .bool true] w fun e w' => e = .returned (.bool true) ∧ Below w.heap.size w w' := by
  have HB := Lib.hid (hbg w h)
  have HL := Lib.hid h
  have C1 := Lib.hid (cut_any body 60)
  have C2 := Lib.hid (cut_any tag 60)
  have hs1 := cutS_size body 60
  have hs2 := cutS_size tag 60
  generalize cutS body 60 = B at *
  generalize cutS tag 60 = T at *
  have hB3 : B.size ≤ 300 := by omega
  have R1 := Lib.hid (fun W => rtag_p B (by omega) W)
  have R2 := Lib.hid (fun W => rtag_p T (by omega) W)
  have I1 := tag_isText B
  have I2 := tag_isText T
  have HP := Lib.hid (fun W => lput_any ⟨#[107]⟩ B 1 (by decide) (by decide) W)
  have HD1 := Lib.hid (fun u v W E (h : SB w W E Bk.zero u v) => do_at (cdp B) h bgz_wf.wf (cdp_wf B) (cdp_may hB3) rfl (.inl rfl))
  rw [cs1_do] at HD1
  have HD2 := Lib.hid (fun u v W E (h : SB w W E (cs1 B) u v) => do_at bd1 h (cs1_wf B) bd1_wf bd1_may rfl (.inr rfl))
  rw [cs2_do hB3] at HD2
  have HDA := Lib.hid (fun u v W E (h : SB w W E (cs2 B) u v) => do_at cda h (cs2_wf B) cda_wf cda_may rfl (.inl rfl))
  have eA := c2_abs hB3
  have HDB := Lib.hid (fun u v W E (h : SB w W E (cs2 B) u v) => do_at (cdm (tagS B)) h (cs2_wf B) (cdm_wf _) (cdm_may I1) rfl (.inl rfl))
  have eB := c2_mat (T := (tagS B)) hB3
  have HDC := Lib.hid (fun u v W E (h : SB w W E (cs2 B) u v) => do_at (cdm (tagS T)) h (cs2_wf B) (cdm_wf _) (cdm_may I2) rfl (.inl rfl))
  have eC := c2_mat (T := (tagS T)) hB3
  generalize doB (cs2 B) cda true = rA at *
  obtain ⟨sA, rA⟩ := rA
  dsimp only at eA
  subst eA
  generalize doB (cs2 B) (cdm (tagS B)) true = rB at *
  obtain ⟨sB, rB⟩ := rB
  dsimp only at eB
  subst eB
  generalize doB (cs2 B) (cdm (tagS T)) true = rC at *
  obtain ⟨sC, rC⟩ := rC
  dsimp only at eC
  subst eC
  clear I1 I2 hbg h
  generalize tagS B = G at *
  generalize tagS T = KT at *
  unfold DoAns bagg dagg at *
  dsimp only [cda, cdm, cdp, bd1, cs1, cs2, Bk.zero, List.length] at HDA HDB HDC HD1 HD2
  go_enter Tryz.func7, Tryz.ntmps7
  go_wp2_with fail
  refine HB.out.mono ?_
  rintro _ w0 ⟨rfl, hb⟩
  have HS := Lib.hid (SB.new HL.out hb)
  clear hb HB
  go_wp2_with fail
  refine (C1.out _).mono ?_
  rintro _ _ ⟨rfl, rfl⟩
  go_wp2_with fail
  generalize w0.alloc (.cells #[.int .i64 0, .slice none 0 0, .slice none 0 0, .int .i64 0, .int .i64 0, .int .i64 0, .int .i64 0, .int .i64 0] 78) = W0 at *
  generalize w0.heap.size = E at *
  refine wp_region_D (S := fun L Y => L.getD 7 false = false → BC Y E Bk.zero (.slice none 0 0) (.slice none 0 0)) (by kernel_rfl) (fun _ => HS.out.bc) (fun hS0 => ?_)
  refine wpAnyD_take (i := 0) (v := Value.agg #[.int .i64 0, .slice none 0 0, .slice none 0 0, .int .i64 0, .int .i64 0, .int .i64 0, .int .i64 0, .int .i64 0]) rfl (by kernel_rfl) (by kernel_rfl) (by kernel_rfl) (by kernel_rfl) (fun _ _ _ h => h) (fun L w => by simp only [getD_set_ne false (by decide : (0 : Nat) ≠ 7)]) (by kernel_rfl) hS0 ⟨by rfl, fun L w' hL hD hS => ?_⟩ (fun hS0 => ?_)
  · have hq := (hS (blocked (j := 7) hD hL (by kernel_rfl))).cells
    dsimp only [Bk.zero] at hq
    obtain ⟨q0, q1, q2, q3, q4, q5, q6, q7⟩ := hq
    refine .inl ?_
    go_simp
  refine wpAnyD_take (i := 1) (v := Value.string B) rfl (by kernel_rfl) (by kernel_rfl) (by kernel_rfl) (by kernel_rfl) (fun _ _ _ h => h) (fun L w => by simp only [getD_set_ne false (by decide : (1 : Nat) ≠ 7)]) (by kernel_rfl) hS0 ⟨by rfl, fun L w' hL hD hS => ?_⟩ (fun hS0 => ?_)
  · refine .inl ?_
    go_simp
  simp only [List.getElem_toArray, List.getElem_cons_succ, List.getElem_cons_zero, Act.put, List.setIfInBounds_toArray, List.set_cons_zero, List.set_cons_succ]
  refine wpAnyD_one (i := 2) (by kernel_rfl) rfl (by kernel_rfl) (fun K hK => ?_)
  simp only [List.getElem_toArray, List.getElem_cons_succ, List.getElem_cons_zero]
  go_simp
  refine (HP.out _).mono ?_
  rintro _ w2 ⟨rfl, hb⟩
  replace hb : Below W0.heap.size W0 w2 := (Below.refl W0.heap.size W0).drew.trans hb
  replace HS := Lib.hid (HS.out.below hb)
  clear hb hS0
  refine hK.out _ _ (fun _ => HS.out.bc) (fun hS0 => ?_)
  clear hK
  refine wpAnyD_one (i := 3) (by kernel_rfl) rfl (by kernel_rfl) (fun K hK => ?_)
  simp only [List.getElem_toArray, List.getElem_cons_succ, List.getElem_cons_zero]
  go_simp
  refine (HD1.out _ _ _ _ HS.out).mono ?_
  rintro _ w3 ⟨a1, c1, b1, d1, rfl, ho, hm, hb⟩
  have hS1 : BC w3 E Bk.zero (.slice none 0 0) (.slice none 0 0) := HS.out.bc.below hb
  clear hS0
  refine hK.out _ _ (fun _ => hS1) (fun hS0 => ?_)
  clear hK
  refine wpAnyD_take (i := 4) (v := Value.tuple #[.agg #[.int .i64 1, .slice a1 1 c1, .slice b1 1 d1, .int .i64 0, .int .i64 0, .int .i64 0, .int .i64 0, .int .i64 0], .agg #[.int .i64 0, .int .i64 1]]) rfl (by kernel_rfl) (by kernel_rfl) (by kernel_rfl) (by kernel_rfl) (fun _ _ _ h => h) (fun L w => by simp only [getD_set_ne false (by decide : (4 : Nat) ≠ 7)]) (by kernel_rfl) hS0 ⟨by rfl, fun L w' hL hD hS => ?_⟩ (fun hS0 => ?_)
  · refine .inl ?_
    go_simp
  simp only [List.getElem_toArray, List.getElem_cons_succ, List.getElem_cons_zero, Act.put, List.setIfInBounds_toArray, List.set_cons_zero, List.set_cons_succ]
  refine wpAnyD_take (i := 5) (v := Value.agg #[.int .i64 1, .slice a1 1 c1, .slice b1 1 d1, .int .i64 0, .int .i64 0, .int .i64 0, .int .i64 0, .int .i64 0]) rfl (by kernel_rfl) (by kernel_rfl) (by kernel_rfl) (by kernel_rfl) (fun _ _ _ h => h) (fun L w => by simp only [getD_set_ne false (by decide : (5 : Nat) ≠ 7)]) (by kernel_rfl) hS0 ⟨by rfl, fun L w' hL hD hS => ?_⟩ (fun hS0 => ?_)
  · refine .inl ?_
    go_simp
  simp only [List.getElem_toArray, List.getElem_cons_succ, List.getElem_cons_zero, Act.put, List.setIfInBounds_toArray, List.set_cons_zero, List.set_cons_succ]
  refine wpAnyD_take (i := 6) (v := Value.agg #[.int .i64 0, .int .i64 1]) rfl (by kernel_rfl) (by kernel_rfl) (by kernel_rfl) (by kernel_rfl) (fun _ _ _ h => h) (fun L w => by simp only [getD_set_ne false (by decide : (6 : Nat) ≠ 7)]) (by kernel_rfl) hS0 ⟨by rfl, fun L w' hL hD hS => ?_⟩ (fun hS0 => ?_)
  · refine .inl ?_
    go_simp
  simp only [List.getElem_toArray, List.getElem_cons_succ, List.getElem_cons_zero, Act.put, List.setIfInBounds_toArray, List.set_cons_zero, List.set_cons_succ]
  clear hS0
  have hS0 := hS1
  have hq := hS0.cells
  dsimp only [Bk.zero] at hq
  obtain ⟨q0, q1, q2, q3, q4, q5, q6, q7⟩ := hq
  have f0 := hS0.free 0
  have f1 := hS0.free 1
  have f2 := hS0.free 2
  have f3 := hS0.free 3
  have f4 := hS0.free 4
  have f5 := hS0.free 5
  have f6 := hS0.free 6
  have f7 := hS0.free 7
  have ql := hS0.lt
  have HQ := Lib.hid (HS.out.store (s' := cs1 B) hb ho hm (by unfold cs1; simp) (by unfold cs1; simp) (by unfold cs1; simp))
  unfold bstore at HQ
  dsimp only [cs1] at HQ
  clear ho hm hb HS hS0 hS1
  have HS := HQ
  clear HQ
  refine wpAnyD_one (i := 7) (by kernel_rfl) rfl (by kernel_rfl) (fun K hK => ?_)
  simp only [List.getElem_toArray, List.getElem_cons_succ, List.getElem_cons_zero]
  go_simp
  refine hK.out _ _ (fun h => (by cases h)) (fun hS0 => ?_)
  clear hK hS0
  refine wpAnyD_done (by kernel_rfl) ?_ _
  generalize ((((((((w3.setCell ⟨E, 0, none⟩ (.int .i64 1)).setCell ⟨E, 1, none⟩ (.slice a1 1 c1)).setCell ⟨E, 2, none⟩ (.slice b1 1 d1)).setCell ⟨E, 3, none⟩ (.int .i64 0)).setCell ⟨E, 4, none⟩ (.int .i64 0)).setCell ⟨E, 5, none⟩ (.int .i64 0)).setCell ⟨E, 6, none⟩ (.int .i64 0)).setCell ⟨E, 7, none⟩ (.int .i64 0)) = W1 at *
  clear q0 q1 q2 q3 q4 q5 q6 q7 f0 f1 f2 f3 f4 f5 f6 f7 ql
  have hq := HS.out.bc.cells
  dsimp only [cs1] at hq
  obtain ⟨q0, q1, q2, q3, q4, q5, q6, q7⟩ := hq
  have ql := HS.out.bc.lt
  go_wp2_with fail
  refine (HD2.out _ _ _ _ HS.out).mono ?_
  rintro _ w3 ⟨a2, c2, b2, d2, rfl, ho, hm, hb⟩
  clear q0 q1 q2 q3 q4 q5 q6 q7 ql
  have hcc := HS.out.bc.below hb
  have hq := hcc.cells
  dsimp only [cs1] at hq
  obtain ⟨q0, q1, q2, q3, q4, q5, q6, q7⟩ := hq
  have f0 := hcc.free 0
  have f1 := hcc.free 1
  have f2 := hcc.free 2
  have f3 := hcc.free 3
  have f4 := hcc.free 4
  have f5 := hcc.free 5
  have f6 := hcc.free 6
  have f7 := hcc.free 7
  have ql := hcc.lt
  clear hcc
  have HQ := Lib.hid (HS.out.store (s' := cs2 B) hb ho hm (by unfold cs2; simp) (by unfold cs2; simp) (by unfold cs2; simp))
  unfold bstore at HQ
  dsimp only [cs2] at HQ
  clear ho hm hb HS
  have HS := HQ
  clear HQ
  go_wp2_with fail
  generalize ((((((((w3.setCell ⟨E, 0, none⟩ (.int .i64 2)).setCell ⟨E, 1, none⟩ (.slice a2 1 c2)).setCell ⟨E, 2, none⟩ (.slice b2 2 d2)).setCell ⟨E, 3, none⟩ (.int .i64 0)).setCell ⟨E, 4, none⟩ (.int .i64 0)).setCell ⟨E, 5, none⟩ (.int .i64 0)).setCell ⟨E, 6, none⟩ (.int .i64 0)).setCell ⟨E, 7, none⟩ (.int .i64 0)) = W2 at *
  clear q0 q1 q2 q3 q4 q5 q6 q7 f0 f1 f2 f3 f4 f5 f6 f7 ql
  have hq := HS.out.bc.cells
  dsimp only [cs2] at hq
  obtain ⟨q0, q1, q2, q3, q4, q5, q6, q7⟩ := hq
  have ql := HS.out.bc.lt
  --TAG
  go_wp2_with fail
  refine (R1.out _).mono ?_
  rintro _ w4 ⟨rfl, hb⟩
  replace HS := Lib.hid (HS.out.below hb)
  clear hb q0 q1 q2 q3 q4 q5 q6 q7 ql
  have hq := HS.out.bc.cells
  dsimp only [cs2] at hq
  obtain ⟨q0, q1, q2, q3, q4, q5, q6, q7⟩ := hq
  have ql := HS.out.bc.lt
  go_wp2_with fail
  refine (HDA.out _ _ _ _ HS.out).mono ?_
  rintro _ v0 ⟨aA, cA, bA, dA, rfl, -, -, hb⟩
  clear q0 q1 q2 q3 q4 q5 q6 q7 ql
  replace HS := Lib.hid (HS.out.below hb)
  clear hb
  have hq := HS.out.bc.cells
  dsimp only [cs2] at hq
  obtain ⟨q0, q1, q2, q3, q4, q5, q6, q7⟩ := hq
  have ql := HS.out.bc.lt
  have hb := two_boxes v0 #[.int .i64 sA.seq, .slice aA sA.l.length cA, .slice bA sA.ms.length dA, .int .i64 sA.l1, .int .i64 sA.l2, .int .i64 sA.l3, .int .i64 sA.l4, .int .i64 sA.l5] #[.int .i64 0, .int .i64 3] 78 80
  have rA : Hid (RC ((v0.alloc (.cells #[.int .i64 sA.seq, .slice aA sA.l.length cA, .slice bA sA.ms.length dA, .int .i64 sA.l1, .int .i64 sA.l2, .int .i64 sA.l3, .int .i64 sA.l4, .int .i64 sA.l5] 78)).alloc (.cells #[.int .i64 0, .int .i64 3] 80)) (v0.heap.size + 1) ⟨0, 3⟩) := Lib.hid (rc_two v0 #[.int .i64 sA.seq, .slice aA sA.l.length cA, .slice bA sA.ms.length dA, .int .i64 sA.l1, .int .i64 sA.l2, .int .i64 sA.l3, .int .i64 sA.l4, .int .i64 sA.l5] 78 ⟨0, 3⟩)
  replace HS := Lib.hid (HS.out.below hb)
  clear hb
  go_wp2_with fail
  generalize ((v0.alloc (.cells #[.int .i64 sA.seq, .slice aA sA.l.length cA, .slice bA sA.ms.length dA, .int .i64 sA.l1, .int .i64 sA.l2, .int .i64 sA.l3, .int .i64 sA.l4, .int .i64 sA.l5] 78)).alloc (.cells #[.int .i64 0, .int .i64 3] 80)) = W0 at *
  generalize v0.heap.size + 1 = X0 at *
  clear q0 q1 q2 q3 q4 q5 q6 q7 ql
  refine (HDB.out _ _ _ _ HS.out).mono ?_
  rintro _ v1 ⟨aB, cB, bB, dB, rfl, -, -, hb⟩
  replace HS := Lib.hid (HS.out.below hb)
  replace rA := Lib.hid (rA.out.below hb)
  clear hb
  have hq := HS.out.bc.cells
  dsimp only [cs2] at hq
  obtain ⟨q0, q1, q2, q3, q4, q5, q6, q7⟩ := hq
  have ql := HS.out.bc.lt
  have hb := two_boxes v1 #[.int .i64 sB.seq, .slice aB sB.l.length cB, .slice bB sB.ms.length dB, .int .i64 sB.l1, .int .i64 sB.l2, .int .i64 sB.l3, .int .i64 sB.l4, .int .i64 sB.l5] #[.int .i64 9, .int .i64 0] 78 80
  have rB : Hid (RC ((v1.alloc (.cells #[.int .i64 sB.seq, .slice aB sB.l.length cB, .slice bB sB.ms.length dB, .int .i64 sB.l1, .int .i64 sB.l2, .int .i64 sB.l3, .int .i64 sB.l4, .int .i64 sB.l5] 78)).alloc (.cells #[.int .i64 9, .int .i64 0] 80)) (v1.heap.size + 1) ⟨9, 0⟩) := Lib.hid (rc_two v1 #[.int .i64 sB.seq, .slice aB sB.l.length cB, .slice bB sB.ms.length dB, .int .i64 sB.l1, .int .i64 sB.l2, .int .i64 sB.l3, .int .i64 sB.l4, .int .i64 sB.l5] 78 ⟨9, 0⟩)
  replace HS := Lib.hid (HS.out.below hb)
  replace rA := Lib.hid (rA.out.below hb)
  clear hb
  go_wp2_with fail
  generalize ((v1.alloc (.cells #[.int .i64 sB.seq, .slice aB sB.l.length cB, .slice bB sB.ms.length dB, .int .i64 sB.l1, .int .i64 sB.l2, .int .i64 sB.l3, .int .i64 sB.l4, .int .i64 sB.l5] 78)).alloc (.cells #[.int .i64 9, .int .i64 0] 80)) = W1 at *
  generalize v1.heap.size + 1 = X1 at *
  clear q0 q1 q2 q3 q4 q5 q6 q7 ql
  refine (C2.out _).mono ?_
  rintro _ _ ⟨rfl, rfl⟩
  go_wp2_with fail
  refine (R2.out _).mono ?_
  rintro _ w7 ⟨rfl, hb⟩
  replace HS := Lib.hid (HS.out.below hb)
  replace rA := Lib.hid (rA.out.below hb)
  replace rB := Lib.hid (rB.out.below hb)
  clear hb
  have hq := HS.out.bc.cells
  dsimp only [cs2] at hq
  obtain ⟨q0, q1, q2, q3, q4, q5, q6, q7⟩ := hq
  have ql := HS.out.bc.lt
  go_wp2_with fail
  refine (HDC.out _ _ _ _ HS.out).mono ?_
  rintro _ v2 ⟨aC, cC, bC, dC, rfl, -, -, hb⟩
  clear q0 q1 q2 q3 q4 q5 q6 q7 ql
  replace HS := Lib.hid (HS.out.below hb)
  replace rA := Lib.hid (rA.out.below hb)
  replace rB := Lib.hid (rB.out.below hb)
  clear hb
  have hq := HS.out.bc.cells
  dsimp only [cs2] at hq
  obtain ⟨q0, q1, q2, q3, q4, q5, q6, q7⟩ := hq
  have ql := HS.out.bc.lt
  obtain ⟨rA0, rA1, -, -⟩ := rA.out.facts
  dsimp only at rA0 rA1
  have rAl := rA.out.lt
  obtain ⟨rB0, rB1, -, -⟩ := rB.out.facts
  dsimp only at rB0 rB1
  have rBl := rB.out.lt
  have hb := two_boxes v2 #[.int .i64 sC.seq, .slice aC sC.l.length cC, .slice bC sC.ms.length dC, .int .i64 sC.l1, .int .i64 sC.l2, .int .i64 sC.l3, .int .i64 sC.l4, .int .i64 sC.l5] #[.int .i64 9, .int .i64 0] 78 80
  replace HS := Lib.hid (HS.out.below hb)
  clear hb rA rB
  go_wp2_with fail
  go_ret
  exact ⟨rfl, HS.out.bl⟩

set_option maxRecDepth 100000 in
set_option maxHeartbeats 16000000 in
theorem conds_1e (body tag : ByteArray) (w : World) (hbg : Begun5True) (h : LibAt w) (hT : tagS (cutS tag 60) = tagS (cutS body 60)) :
    Calls Tryz.prog 7 #[.string body, .string tag, .bool false, .bool true] w fun e w' => e = .returned (.bool true) ∧ Below w.heap.size w w' := by
  have HB := Lib.hid (hbg w h)
  have HL := Lib.hid h
  have C1 := Lib.hid (cut_any body 60)
  have C2 := Lib.hid (cut_any tag 60)
  have hs1 := cutS_size body 60
  have hs2 := cutS_size tag 60
  generalize cutS body 60 = B at *
  generalize cutS tag 60 = T at *
  have hB3 : B.size ≤ 300 := by omega
  have R1 := Lib.hid (fun W => rtag_p B (by omega) W)
  have R2 := Lib.hid (fun W => rtag_p T (by omega) W)
  have I1 := tag_isText B
  have I2 := tag_isText T
  have HP := Lib.hid (fun W => lput_any ⟨#[107]⟩ B 1 (by decide) (by decide) W)
  have HD1 := Lib.hid (fun u v W E (h : SB w W E Bk.zero u v) => do_at (cdp B) h bgz_wf.wf (cdp_wf B) (cdp_may hB3) rfl (.inl rfl))
  rw [cs1_do] at HD1
  have HDA := Lib.hid (fun u v W E (h : SB w W E (cs1 B) u v) => do_at cda h (cs1_wf B) cda_wf cda_may rfl (.inl rfl))
  have eA := c1_abs hB3
  have HDB := Lib.hid (fun u v W E (h : SB w W E (cs1 B) u v) => do_at (cdm (tagS B)) h (cs1_wf B) (cdm_wf _) (cdm_may I1) rfl (.inl rfl))
  have eB := c1_mat (T := (tagS B)) hB3
  rw [if_pos (by simp)] at eB
  have HDC := Lib.hid (fun u v W E (h : SB w W E (cs1 B) u v) => do_at (cdm (tagS T)) h (cs1_wf B) (cdm_wf _) (cdm_may I2) rfl (.inl rfl))
  have eC := c1_mat (T := (tagS T)) hB3
  rw [if_pos (by rw [hT]; simp)] at eC
  generalize doB (cs1 B) cda true = rA at *
  obtain ⟨sA, rA⟩ := rA
  dsimp only at eA
  subst eA
  generalize doB (cs1 B) (cdm (tagS B)) true = rB at *
  obtain ⟨sB, rB⟩ := rB
  dsimp only at eB
  subst eB
  generalize doB (cs1 B) (cdm (tagS T)) true = rC at *
  obtain ⟨sC, rC⟩ := rC
  dsimp only at eC
  subst eC
  clear I1 I2 hbg h
  rw [hT] at *
  clear hT
  generalize tagS B = G at *
  unfold DoAns bagg dagg at *
  dsimp only [cda, cdm, cdp, bd1, cs1, cs2, Bk.zero, List.length] at HDA HDB HDC HD1
  go_enter Tryz.func7, Tryz.ntmps7
  go_wp2_with fail
  refine HB.out.mono ?_
  rintro _ w0 ⟨rfl, hb⟩
  have HS := Lib.hid (SB.new HL.out hb)
  clear hb HB
  go_wp2_with fail
  refine (C1.out _).mono ?_
  rintro _ _ ⟨rfl, rfl⟩
  go_wp2_with fail
  generalize w0.alloc (.cells #[.int .i64 0, .slice none 0 0, .slice none 0 0, .int .i64 0, .int .i64 0, .int .i64 0, .int .i64 0, .int .i64 0] 78) = W0 at *
  generalize w0.heap.size = E at *
  refine wp_region_D (S := fun L Y => L.getD 7 false = false → BC Y E Bk.zero (.slice none 0 0) (.slice none 0 0)) (by kernel_rfl) (fun _ => HS.out.bc) (fun hS0 => ?_)
  refine wpAnyD_take (i := 0) (v := Value.agg #[.int .i64 0, .slice none 0 0, .slice none 0 0, .int .i64 0, .int .i64 0, .int .i64 0, .int .i64 0, .int .i64 0]) rfl (by kernel_rfl) (by kernel_rfl) (by kernel_rfl) (by kernel_rfl) (fun _ _ _ h => h) (fun L w => by simp only [getD_set_ne false (by decide : (0 : Nat) ≠ 7)]) (by kernel_rfl) hS0 ⟨by rfl, fun L w' hL hD hS => ?_⟩ (fun hS0 => ?_)
  · have hq := (hS (blocked (j := 7) hD hL (by kernel_rfl))).cells
    dsimp only [Bk.zero] at hq
    obtain ⟨q0, q1, q2, q3, q4, q5, q6, q7⟩ := hq
    refine .inl ?_
    go_simp
  refine wpAnyD_take (i := 1) (v := Value.string B) rfl (by kernel_rfl) (by kernel_rfl) (by kernel_rfl) (by kernel_rfl) (fun _ _ _ h => h) (fun L w => by simp only [getD_set_ne false (by decide : (1 : Nat) ≠ 7)]) (by kernel_rfl) hS0 ⟨by rfl, fun L w' hL hD hS => ?_⟩ (fun hS0 => ?_)
  · refine .inl ?_
    go_simp
  simp only [List.getElem_toArray, List.getElem_cons_succ, List.getElem_cons_zero, Act.put, List.setIfInBounds_toArray, List.set_cons_zero, List.set_cons_succ]
  refine wpAnyD_one (i := 2) (by kernel_rfl) rfl (by kernel_rfl) (fun K hK => ?_)
  simp only [List.getElem_toArray, List.getElem_cons_succ, List.getElem_cons_zero]
  go_simp
  refine (HP.out _).mono ?_
  rintro _ w2 ⟨rfl, hb⟩
  replace hb : Below W0.heap.size W0 w2 := (Below.refl W0.heap.size W0).drew.trans hb
  replace HS := Lib.hid (HS.out.below hb)
  clear hb hS0
  refine hK.out _ _ (fun _ => HS.out.bc) (fun hS0 => ?_)
  clear hK
  refine wpAnyD_one (i := 3) (by kernel_rfl) rfl (by kernel_rfl) (fun K hK => ?_)
  simp only [List.getElem_toArray, List.getElem_cons_succ, List.getElem_cons_zero]
  go_simp
  refine (HD1.out _ _ _ _ HS.out).mono ?_
  rintro _ w3 ⟨a1, c1, b1, d1, rfl, ho, hm, hb⟩
  have hS1 : BC w3 E Bk.zero (.slice none 0 0) (.slice none 0 0) := HS.out.bc.below hb
  clear hS0
  refine hK.out _ _ (fun _ => hS1) (fun hS0 => ?_)
  clear hK
  refine wpAnyD_take (i := 4) (v := Value.tuple #[.agg #[.int .i64 1, .slice a1 1 c1, .slice b1 1 d1, .int .i64 0, .int .i64 0, .int .i64 0, .int .i64 0, .int .i64 0], .agg #[.int .i64 0, .int .i64 1]]) rfl (by kernel_rfl) (by kernel_rfl) (by kernel_rfl) (by kernel_rfl) (fun _ _ _ h => h) (fun L w => by simp only [getD_set_ne false (by decide : (4 : Nat) ≠ 7)]) (by kernel_rfl) hS0 ⟨by rfl, fun L w' hL hD hS => ?_⟩ (fun hS0 => ?_)
  · refine .inl ?_
    go_simp
  simp only [List.getElem_toArray, List.getElem_cons_succ, List.getElem_cons_zero, Act.put, List.setIfInBounds_toArray, List.set_cons_zero, List.set_cons_succ]
  refine wpAnyD_take (i := 5) (v := Value.agg #[.int .i64 1, .slice a1 1 c1, .slice b1 1 d1, .int .i64 0, .int .i64 0, .int .i64 0, .int .i64 0, .int .i64 0]) rfl (by kernel_rfl) (by kernel_rfl) (by kernel_rfl) (by kernel_rfl) (fun _ _ _ h => h) (fun L w => by simp only [getD_set_ne false (by decide : (5 : Nat) ≠ 7)]) (by kernel_rfl) hS0 ⟨by rfl, fun L w' hL hD hS => ?_⟩ (fun hS0 => ?_)
  · refine .inl ?_
    go_simp
  simp only [List.getElem_toArray, List.getElem_cons_succ, List.getElem_cons_zero, Act.put, List.setIfInBounds_toArray, List.set_cons_zero, List.set_cons_succ]
  refine wpAnyD_take (i := 6) (v := Value.agg #[.int .i64 0, .int .i64 1]) rfl (by kernel_rfl) (by kernel_rfl) (by kernel_rfl) (by kernel_rfl) (fun _ _ _ h => h) (fun L w => by simp only [getD_set_ne false (by decide : (6 : Nat) ≠ 7)]) (by kernel_rfl) hS0 ⟨by rfl, fun L w' hL hD hS => ?_⟩ (fun hS0 => ?_)
  · refine .inl ?_
    go_simp
  simp only [List.getElem_toArray, List.getElem_cons_succ, List.getElem_cons_zero, Act.put, List.setIfInBounds_toArray, List.set_cons_zero, List.set_cons_succ]
  clear hS0
  have hS0 := hS1
  have hq := hS0.cells
  dsimp only [Bk.zero] at hq
  obtain ⟨q0, q1, q2, q3, q4, q5, q6, q7⟩ := hq
  have f0 := hS0.free 0
  have f1 := hS0.free 1
  have f2 := hS0.free 2
  have f3 := hS0.free 3
  have f4 := hS0.free 4
  have f5 := hS0.free 5
  have f6 := hS0.free 6
  have f7 := hS0.free 7
  have ql := hS0.lt
  have HQ := Lib.hid (HS.out.store (s' := cs1 B) hb ho hm (by unfold cs1; simp) (by unfold cs1; simp) (by unfold cs1; simp))
  unfold bstore at HQ
  dsimp only [cs1] at HQ
  clear ho hm hb HS hS0 hS1
  have HS := HQ
  clear HQ
  refine wpAnyD_one (i := 7) (by kernel_rfl) rfl (by kernel_rfl) (fun K hK => ?_)
  simp only [List.getElem_toArray, List.getElem_cons_succ, List.getElem_cons_zero]
  go_simp
  refine hK.out _ _ (fun h => (by cases h)) (fun hS0 => ?_)
  clear hK hS0
  refine wpAnyD_done (by kernel_rfl) ?_ _
  generalize ((((((((w3.setCell ⟨E, 0, none⟩ (.int .i64 1)).setCell ⟨E, 1, none⟩ (.slice a1 1 c1)).setCell ⟨E, 2, none⟩ (.slice b1 1 d1)).setCell ⟨E, 3, none⟩ (.int .i64 0)).setCell ⟨E, 4, none⟩ (.int .i64 0)).setCell ⟨E, 5, none⟩ (.int .i64 0)).setCell ⟨E, 6, none⟩ (.int .i64 0)).setCell ⟨E, 7, none⟩ (.int .i64 0)) = W1 at *
  clear q0 q1 q2 q3 q4 q5 q6 q7 f0 f1 f2 f3 f4 f5 f6 f7 ql
  have hq := HS.out.bc.cells
  dsimp only [cs1] at hq
  obtain ⟨q0, q1, q2, q3, q4, q5, q6, q7⟩ := hq
  have ql := HS.out.bc.lt
  --TAG
  go_wp2_with fail
  refine (R1.out _).mono ?_
  rintro _ w4 ⟨rfl, hb⟩
  replace HS := Lib.hid (HS.out.below hb)
  clear hb q0 q1 q2 q3 q4 q5 q6 q7 ql
  have hq := HS.out.bc.cells
  dsimp only [cs1] at hq
  obtain ⟨q0, q1, q2, q3, q4, q5, q6, q7⟩ := hq
  have ql := HS.out.bc.lt
  go_wp2_with fail
  refine (HDA.out _ _ _ _ HS.out).mono ?_
  rintro _ v0 ⟨aA, cA, bA, dA, rfl, -, -, hb⟩
  clear q0 q1 q2 q3 q4 q5 q6 q7 ql
  replace HS := Lib.hid (HS.out.below hb)
  clear hb
  have hq := HS.out.bc.cells
  dsimp only [cs1] at hq
  obtain ⟨q0, q1, q2, q3, q4, q5, q6, q7⟩ := hq
  have ql := HS.out.bc.lt
  have hb := two_boxes v0 #[.int .i64 sA.seq, .slice aA sA.l.length cA, .slice bA sA.ms.length dA, .int .i64 sA.l1, .int .i64 sA.l2, .int .i64 sA.l3, .int .i64 sA.l4, .int .i64 sA.l5] #[.int .i64 9, .int .i64 0] 78 80
  have rA : Hid (RC ((v0.alloc (.cells #[.int .i64 sA.seq, .slice aA sA.l.length cA, .slice bA sA.ms.length dA, .int .i64 sA.l1, .int .i64 sA.l2, .int .i64 sA.l3, .int .i64 sA.l4, .int .i64 sA.l5] 78)).alloc (.cells #[.int .i64 9, .int .i64 0] 80)) (v0.heap.size + 1) ⟨9, 0⟩) := Lib.hid (rc_two v0 #[.int .i64 sA.seq, .slice aA sA.l.length cA, .slice bA sA.ms.length dA, .int .i64 sA.l1, .int .i64 sA.l2, .int .i64 sA.l3, .int .i64 sA.l4, .int .i64 sA.l5] 78 ⟨9, 0⟩)
  replace HS := Lib.hid (HS.out.below hb)
  clear hb
  go_wp2_with fail
  generalize ((v0.alloc (.cells #[.int .i64 sA.seq, .slice aA sA.l.length cA, .slice bA sA.ms.length dA, .int .i64 sA.l1, .int .i64 sA.l2, .int .i64 sA.l3, .int .i64 sA.l4, .int .i64 sA.l5] 78)).alloc (.cells #[.int .i64 9, .int .i64 0] 80)) = W0 at *
  generalize v0.heap.size + 1 = X0 at *
  clear q0 q1 q2 q3 q4 q5 q6 q7 ql
  refine (HDB.out _ _ _ _ HS.out).mono ?_
  rintro _ v1 ⟨aB, cB, bB, dB, rfl, -, -, hb⟩
  replace HS := Lib.hid (HS.out.below hb)
  replace rA := Lib.hid (rA.out.below hb)
  clear hb
  have hq := HS.out.bc.cells
  dsimp only [cs1] at hq
  obtain ⟨q0, q1, q2, q3, q4, q5, q6, q7⟩ := hq
  have ql := HS.out.bc.lt
  have hb := two_boxes v1 #[.int .i64 sB.seq, .slice aB sB.l.length cB, .slice bB sB.ms.length dB, .int .i64 sB.l1, .int .i64 sB.l2, .int .i64 sB.l3, .int .i64 sB.l4, .int .i64 sB.l5] #[.int .i64 0, .int .i64 2] 78 80
  have rB : Hid (RC ((v1.alloc (.cells #[.int .i64 sB.seq, .slice aB sB.l.length cB, .slice bB sB.ms.length dB, .int .i64 sB.l1, .int .i64 sB.l2, .int .i64 sB.l3, .int .i64 sB.l4, .int .i64 sB.l5] 78)).alloc (.cells #[.int .i64 0, .int .i64 2] 80)) (v1.heap.size + 1) ⟨0, 2⟩) := Lib.hid (rc_two v1 #[.int .i64 sB.seq, .slice aB sB.l.length cB, .slice bB sB.ms.length dB, .int .i64 sB.l1, .int .i64 sB.l2, .int .i64 sB.l3, .int .i64 sB.l4, .int .i64 sB.l5] 78 ⟨0, 2⟩)
  replace HS := Lib.hid (HS.out.below hb)
  replace rA := Lib.hid (rA.out.below hb)
  clear hb
  go_wp2_with fail
  generalize ((v1.alloc (.cells #[.int .i64 sB.seq, .slice aB sB.l.length cB, .slice bB sB.ms.length dB, .int .i64 sB.l1, .int .i64 sB.l2, .int .i64 sB.l3, .int .i64 sB.l4, .int .i64 sB.l5] 78)).alloc (.cells #[.int .i64 0, .int .i64 2] 80)) = W1 at *
  generalize v1.heap.size + 1 = X1 at *
  clear q0 q1 q2 q3 q4 q5 q6 q7 ql
  refine (C2.out _).mono ?_
  rintro _ _ ⟨rfl, rfl⟩
  go_wp2_with fail
  refine (R2.out _).mono ?_
  rintro _ w7 ⟨rfl, hb⟩
  replace HS := Lib.hid (HS.out.below hb)
  replace rA := Lib.hid (rA.out.below hb)
  replace rB := Lib.hid (rB.out.below hb)
  clear hb
  have hq := HS.out.bc.cells
  dsimp only [cs1] at hq
  obtain ⟨q0, q1, q2, q3, q4, q5, q6, q7⟩ := hq
  have ql := HS.out.bc.lt
  go_wp2_with fail
  refine (HDC.out _ _ _ _ HS.out).mono ?_
  rintro _ v2 ⟨aC, cC, bC, dC, rfl, -, -, hb⟩
  clear q0 q1 q2 q3 q4 q5 q6 q7 ql
  replace HS := Lib.hid (HS.out.below hb)
  replace rA := Lib.hid (rA.out.below hb)
  replace rB := Lib.hid (rB.out.below hb)
  clear hb
  have hq := HS.out.bc.cells
  dsimp only [cs1] at hq
  obtain ⟨q0, q1, q2, q3, q4, q5, q6, q7⟩ := hq
  have ql := HS.out.bc.lt
  obtain ⟨rA0, rA1, -, -⟩ := rA.out.facts
  dsimp only at rA0 rA1
  have rAl := rA.out.lt
  obtain ⟨rB0, rB1, -, -⟩ := rB.out.facts
  dsimp only at rB0 rB1
  have rBl := rB.out.lt
  have hb := two_boxes v2 #[.int .i64 sC.seq, .slice aC sC.l.length cC, .slice bC sC.ms.length dC, .int .i64 sC.l1, .int .i64 sC.l2, .int .i64 sC.l3, .int .i64 sC.l4, .int .i64 sC.l5] #[.int .i64 0, .int .i64 2] 78 80
  replace HS := Lib.hid (HS.out.below hb)
  clear hb rA rB
  go_wp2_with fail
  go_ret
  exact ⟨rfl, HS.out.bl⟩

set_option maxRecDepth 100000 in
set_option maxHeartbeats 16000000 in
theorem conds_1n (body tag : ByteArray) (w : World) (hbg : Begun5True) (h : LibAt w) (hT : ¬ (tagS (cutS tag 60)).toList = (tagS (cutS body 60)).toList) :
    Calls Tryz.prog 7 #[.string body, .string tag, .bool false, .bool true] w fun e w' => e = .returned (.bool true) ∧ Below w.heap.size w w' := by
  have HB := Lib.hid (hbg w h)
  have HL := Lib.hid h
  have C1 := Lib.hid (cut_any body 60)
  have C2 := Lib.hid (cut_any tag 60)
  have hs1 := cutS_size body 60
  have hs2 := cutS_size tag 60
  generalize cutS body 60 = B at *
  generalize cutS tag 60 = T at *
  have hB3 : B.size ≤ 300 := by omega
  have R1 := Lib.hid (fun W => rtag_p B (by omega) W)
  have R2 := Lib.hid (fun W => rtag_p T (by omega) W)
  have I1 := tag_isText B
  have I2 := tag_isText T
  have HP := Lib.hid (fun W => lput_any ⟨#[107]⟩ B 1 (by decide) (by decide) W)
  have HD1 := Lib.hid (fun u v W E (h : SB w W E Bk.zero u v) => do_at (cdp B) h bgz_wf.wf (cdp_wf B) (cdp_may hB3) rfl (.inl rfl))
  rw [cs1_do] at HD1
  have HDA := Lib.hid (fun u v W E (h : SB w W E (cs1 B) u v) => do_at cda h (cs1_wf B) cda_wf cda_may rfl (.inl rfl))
  have eA := c1_abs hB3
  have HDB := Lib.hid (fun u v W E (h : SB w W E (cs1 B) u v) => do_at (cdm (tagS B)) h (cs1_wf B) (cdm_wf _) (cdm_may I1) rfl (.inl rfl))
  have eB := c1_mat (T := (tagS B)) hB3
  rw [if_pos (by simp)] at eB
  have HDC := Lib.hid (fun u v W E (h : SB w W E (cs1 B) u v) => do_at (cdm (tagS T)) h (cs1_wf B) (cdm_wf _) (cdm_may I2) rfl (.inl rfl))
  have eC := c1_mat (T := (tagS T)) hB3
  rw [if_neg (by simpa using fun e => hT e.symm)] at eC
  generalize doB (cs1 B) cda true = rA at *
  obtain ⟨sA, rA⟩ := rA
  dsimp only at eA
  subst eA
  generalize doB (cs1 B) (cdm (tagS B)) true = rB at *
  obtain ⟨sB, rB⟩ := rB
  dsimp only at eB
  subst eB
  generalize doB (cs1 B) (cdm (tagS T)) true = rC at *
  obtain ⟨sC, rC⟩ := rC
  dsimp only at eC
  subst eC
  clear I1 I2 hbg h
  generalize tagS B = G at *
  generalize tagS T = KT at *
  unfold DoAns bagg dagg at *
  dsimp only [cda, cdm, cdp, bd1, cs1, cs2, Bk.zero, List.length] at HDA HDB HDC HD1
  go_enter Tryz.func7, Tryz.ntmps7
  go_wp2_with fail
  refine HB.out.mono ?_
  rintro _ w0 ⟨rfl, hb⟩
  have HS := Lib.hid (SB.new HL.out hb)
  clear hb HB
  go_wp2_with fail
  refine (C1.out _).mono ?_
  rintro _ _ ⟨rfl, rfl⟩
  go_wp2_with fail
  generalize w0.alloc (.cells #[.int .i64 0, .slice none 0 0, .slice none 0 0, .int .i64 0, .int .i64 0, .int .i64 0, .int .i64 0, .int .i64 0] 78) = W0 at *
  generalize w0.heap.size = E at *
  refine wp_region_D (S := fun L Y => L.getD 7 false = false → BC Y E Bk.zero (.slice none 0 0) (.slice none 0 0)) (by kernel_rfl) (fun _ => HS.out.bc) (fun hS0 => ?_)
  refine wpAnyD_take (i := 0) (v := Value.agg #[.int .i64 0, .slice none 0 0, .slice none 0 0, .int .i64 0, .int .i64 0, .int .i64 0, .int .i64 0, .int .i64 0]) rfl (by kernel_rfl) (by kernel_rfl) (by kernel_rfl) (by kernel_rfl) (fun _ _ _ h => h) (fun L w => by simp only [getD_set_ne false (by decide : (0 : Nat) ≠ 7)]) (by kernel_rfl) hS0 ⟨by rfl, fun L w' hL hD hS => ?_⟩ (fun hS0 => ?_)
  · have hq := (hS (blocked (j := 7) hD hL (by kernel_rfl))).cells
    dsimp only [Bk.zero] at hq
    obtain ⟨q0, q1, q2, q3, q4, q5, q6, q7⟩ := hq
    refine .inl ?_
    go_simp
  refine wpAnyD_take (i := 1) (v := Value.string B) rfl (by kernel_rfl) (by kernel_rfl) (by kernel_rfl) (by kernel_rfl) (fun _ _ _ h => h) (fun L w => by simp only [getD_set_ne false (by decide : (1 : Nat) ≠ 7)]) (by kernel_rfl) hS0 ⟨by rfl, fun L w' hL hD hS => ?_⟩ (fun hS0 => ?_)
  · refine .inl ?_
    go_simp
  simp only [List.getElem_toArray, List.getElem_cons_succ, List.getElem_cons_zero, Act.put, List.setIfInBounds_toArray, List.set_cons_zero, List.set_cons_succ]
  refine wpAnyD_one (i := 2) (by kernel_rfl) rfl (by kernel_rfl) (fun K hK => ?_)
  simp only [List.getElem_toArray, List.getElem_cons_succ, List.getElem_cons_zero]
  go_simp
  refine (HP.out _).mono ?_
  rintro _ w2 ⟨rfl, hb⟩
  replace hb : Below W0.heap.size W0 w2 := (Below.refl W0.heap.size W0).drew.trans hb
  replace HS := Lib.hid (HS.out.below hb)
  clear hb hS0
  refine hK.out _ _ (fun _ => HS.out.bc) (fun hS0 => ?_)
  clear hK
  refine wpAnyD_one (i := 3) (by kernel_rfl) rfl (by kernel_rfl) (fun K hK => ?_)
  simp only [List.getElem_toArray, List.getElem_cons_succ, List.getElem_cons_zero]
  go_simp
  refine (HD1.out _ _ _ _ HS.out).mono ?_
  rintro _ w3 ⟨a1, c1, b1, d1, rfl, ho, hm, hb⟩
  have hS1 : BC w3 E Bk.zero (.slice none 0 0) (.slice none 0 0) := HS.out.bc.below hb
  clear hS0
  refine hK.out _ _ (fun _ => hS1) (fun hS0 => ?_)
  clear hK
  refine wpAnyD_take (i := 4) (v := Value.tuple #[.agg #[.int .i64 1, .slice a1 1 c1, .slice b1 1 d1, .int .i64 0, .int .i64 0, .int .i64 0, .int .i64 0, .int .i64 0], .agg #[.int .i64 0, .int .i64 1]]) rfl (by kernel_rfl) (by kernel_rfl) (by kernel_rfl) (by kernel_rfl) (fun _ _ _ h => h) (fun L w => by simp only [getD_set_ne false (by decide : (4 : Nat) ≠ 7)]) (by kernel_rfl) hS0 ⟨by rfl, fun L w' hL hD hS => ?_⟩ (fun hS0 => ?_)
  · refine .inl ?_
    go_simp
  simp only [List.getElem_toArray, List.getElem_cons_succ, List.getElem_cons_zero, Act.put, List.setIfInBounds_toArray, List.set_cons_zero, List.set_cons_succ]
  refine wpAnyD_take (i := 5) (v := Value.agg #[.int .i64 1, .slice a1 1 c1, .slice b1 1 d1, .int .i64 0, .int .i64 0, .int .i64 0, .int .i64 0, .int .i64 0]) rfl (by kernel_rfl) (by kernel_rfl) (by kernel_rfl) (by kernel_rfl) (fun _ _ _ h => h) (fun L w => by simp only [getD_set_ne false (by decide : (5 : Nat) ≠ 7)]) (by kernel_rfl) hS0 ⟨by rfl, fun L w' hL hD hS => ?_⟩ (fun hS0 => ?_)
  · refine .inl ?_
    go_simp
  simp only [List.getElem_toArray, List.getElem_cons_succ, List.getElem_cons_zero, Act.put, List.setIfInBounds_toArray, List.set_cons_zero, List.set_cons_succ]
  refine wpAnyD_take (i := 6) (v := Value.agg #[.int .i64 0, .int .i64 1]) rfl (by kernel_rfl) (by kernel_rfl) (by kernel_rfl) (by kernel_rfl) (fun _ _ _ h => h) (fun L w => by simp only [getD_set_ne false (by decide : (6 : Nat) ≠ 7)]) (by kernel_rfl) hS0 ⟨by rfl, fun L w' hL hD hS => ?_⟩ (fun hS0 => ?_)
  · refine .inl ?_
    go_simp
  simp only [List.getElem_toArray, List.getElem_cons_succ, List.getElem_cons_zero, Act.put, List.setIfInBounds_toArray, List.set_cons_zero, List.set_cons_succ]
  clear hS0
  have hS0 := hS1
  have hq := hS0.cells
  dsimp only [Bk.zero] at hq
  obtain ⟨q0, q1, q2, q3, q4, q5, q6, q7⟩ := hq
  have f0 := hS0.free 0
  have f1 := hS0.free 1
  have f2 := hS0.free 2
  have f3 := hS0.free 3
  have f4 := hS0.free 4
  have f5 := hS0.free 5
  have f6 := hS0.free 6
  have f7 := hS0.free 7
  have ql := hS0.lt
  have HQ := Lib.hid (HS.out.store (s' := cs1 B) hb ho hm (by unfold cs1; simp) (by unfold cs1; simp) (by unfold cs1; simp))
  unfold bstore at HQ
  dsimp only [cs1] at HQ
  clear ho hm hb HS hS0 hS1
  have HS := HQ
  clear HQ
  refine wpAnyD_one (i := 7) (by kernel_rfl) rfl (by kernel_rfl) (fun K hK => ?_)
  simp only [List.getElem_toArray, List.getElem_cons_succ, List.getElem_cons_zero]
  go_simp
  refine hK.out _ _ (fun h => (by cases h)) (fun hS0 => ?_)
  clear hK hS0
  refine wpAnyD_done (by kernel_rfl) ?_ _
  generalize ((((((((w3.setCell ⟨E, 0, none⟩ (.int .i64 1)).setCell ⟨E, 1, none⟩ (.slice a1 1 c1)).setCell ⟨E, 2, none⟩ (.slice b1 1 d1)).setCell ⟨E, 3, none⟩ (.int .i64 0)).setCell ⟨E, 4, none⟩ (.int .i64 0)).setCell ⟨E, 5, none⟩ (.int .i64 0)).setCell ⟨E, 6, none⟩ (.int .i64 0)).setCell ⟨E, 7, none⟩ (.int .i64 0)) = W1 at *
  clear q0 q1 q2 q3 q4 q5 q6 q7 f0 f1 f2 f3 f4 f5 f6 f7 ql
  have hq := HS.out.bc.cells
  dsimp only [cs1] at hq
  obtain ⟨q0, q1, q2, q3, q4, q5, q6, q7⟩ := hq
  have ql := HS.out.bc.lt
  --TAG
  go_wp2_with fail
  refine (R1.out _).mono ?_
  rintro _ w4 ⟨rfl, hb⟩
  replace HS := Lib.hid (HS.out.below hb)
  clear hb q0 q1 q2 q3 q4 q5 q6 q7 ql
  have hq := HS.out.bc.cells
  dsimp only [cs1] at hq
  obtain ⟨q0, q1, q2, q3, q4, q5, q6, q7⟩ := hq
  have ql := HS.out.bc.lt
  go_wp2_with fail
  refine (HDA.out _ _ _ _ HS.out).mono ?_
  rintro _ v0 ⟨aA, cA, bA, dA, rfl, -, -, hb⟩
  clear q0 q1 q2 q3 q4 q5 q6 q7 ql
  replace HS := Lib.hid (HS.out.below hb)
  clear hb
  have hq := HS.out.bc.cells
  dsimp only [cs1] at hq
  obtain ⟨q0, q1, q2, q3, q4, q5, q6, q7⟩ := hq
  have ql := HS.out.bc.lt
  have hb := two_boxes v0 #[.int .i64 sA.seq, .slice aA sA.l.length cA, .slice bA sA.ms.length dA, .int .i64 sA.l1, .int .i64 sA.l2, .int .i64 sA.l3, .int .i64 sA.l4, .int .i64 sA.l5] #[.int .i64 9, .int .i64 0] 78 80
  have rA : Hid (RC ((v0.alloc (.cells #[.int .i64 sA.seq, .slice aA sA.l.length cA, .slice bA sA.ms.length dA, .int .i64 sA.l1, .int .i64 sA.l2, .int .i64 sA.l3, .int .i64 sA.l4, .int .i64 sA.l5] 78)).alloc (.cells #[.int .i64 9, .int .i64 0] 80)) (v0.heap.size + 1) ⟨9, 0⟩) := Lib.hid (rc_two v0 #[.int .i64 sA.seq, .slice aA sA.l.length cA, .slice bA sA.ms.length dA, .int .i64 sA.l1, .int .i64 sA.l2, .int .i64 sA.l3, .int .i64 sA.l4, .int .i64 sA.l5] 78 ⟨9, 0⟩)
  replace HS := Lib.hid (HS.out.below hb)
  clear hb
  go_wp2_with fail
  generalize ((v0.alloc (.cells #[.int .i64 sA.seq, .slice aA sA.l.length cA, .slice bA sA.ms.length dA, .int .i64 sA.l1, .int .i64 sA.l2, .int .i64 sA.l3, .int .i64 sA.l4, .int .i64 sA.l5] 78)).alloc (.cells #[.int .i64 9, .int .i64 0] 80)) = W0 at *
  generalize v0.heap.size + 1 = X0 at *
  clear q0 q1 q2 q3 q4 q5 q6 q7 ql
  refine (HDB.out _ _ _ _ HS.out).mono ?_
  rintro _ v1 ⟨aB, cB, bB, dB, rfl, -, -, hb⟩
  replace HS := Lib.hid (HS.out.below hb)
  replace rA := Lib.hid (rA.out.below hb)
  clear hb
  have hq := HS.out.bc.cells
  dsimp only [cs1] at hq
  obtain ⟨q0, q1, q2, q3, q4, q5, q6, q7⟩ := hq
  have ql := HS.out.bc.lt
  have hb := two_boxes v1 #[.int .i64 sB.seq, .slice aB sB.l.length cB, .slice bB sB.ms.length dB, .int .i64 sB.l1, .int .i64 sB.l2, .int .i64 sB.l3, .int .i64 sB.l4, .int .i64 sB.l5] #[.int .i64 0, .int .i64 2] 78 80
  have rB : Hid (RC ((v1.alloc (.cells #[.int .i64 sB.seq, .slice aB sB.l.length cB, .slice bB sB.ms.length dB, .int .i64 sB.l1, .int .i64 sB.l2, .int .i64 sB.l3, .int .i64 sB.l4, .int .i64 sB.l5] 78)).alloc (.cells #[.int .i64 0, .int .i64 2] 80)) (v1.heap.size + 1) ⟨0, 2⟩) := Lib.hid (rc_two v1 #[.int .i64 sB.seq, .slice aB sB.l.length cB, .slice bB sB.ms.length dB, .int .i64 sB.l1, .int .i64 sB.l2, .int .i64 sB.l3, .int .i64 sB.l4, .int .i64 sB.l5] 78 ⟨0, 2⟩)
  replace HS := Lib.hid (HS.out.below hb)
  replace rA := Lib.hid (rA.out.below hb)
  clear hb
  go_wp2_with fail
  generalize ((v1.alloc (.cells #[.int .i64 sB.seq, .slice aB sB.l.length cB, .slice bB sB.ms.length dB, .int .i64 sB.l1, .int .i64 sB.l2, .int .i64 sB.l3, .int .i64 sB.l4, .int .i64 sB.l5] 78)).alloc (.cells #[.int .i64 0, .int .i64 2] 80)) = W1 at *
  generalize v1.heap.size + 1 = X1 at *
  clear q0 q1 q2 q3 q4 q5 q6 q7 ql
  refine (C2.out _).mono ?_
  rintro _ _ ⟨rfl, rfl⟩
  go_wp2_with fail
  refine (R2.out _).mono ?_
  rintro _ w7 ⟨rfl, hb⟩
  replace HS := Lib.hid (HS.out.below hb)
  replace rA := Lib.hid (rA.out.below hb)
  replace rB := Lib.hid (rB.out.below hb)
  clear hb
  have hq := HS.out.bc.cells
  dsimp only [cs1] at hq
  obtain ⟨q0, q1, q2, q3, q4, q5, q6, q7⟩ := hq
  have ql := HS.out.bc.lt
  go_wp2_with fail
  refine (HDC.out _ _ _ _ HS.out).mono ?_
  rintro _ v2 ⟨aC, cC, bC, dC, rfl, -, -, hb⟩
  clear q0 q1 q2 q3 q4 q5 q6 q7 ql
  replace HS := Lib.hid (HS.out.below hb)
  replace rA := Lib.hid (rA.out.below hb)
  replace rB := Lib.hid (rB.out.below hb)
  clear hb
  have hq := HS.out.bc.cells
  dsimp only [cs1] at hq
  obtain ⟨q0, q1, q2, q3, q4, q5, q6, q7⟩ := hq
  have ql := HS.out.bc.lt
  obtain ⟨rA0, rA1, -, -⟩ := rA.out.facts
  dsimp only at rA0 rA1
  have rAl := rA.out.lt
  obtain ⟨rB0, rB1, -, -⟩ := rB.out.facts
  dsimp only at rB0 rB1
  have rBl := rB.out.lt
  have hb := two_boxes v2 #[.int .i64 sC.seq, .slice aC sC.l.length cC, .slice bC sC.ms.length dC, .int .i64 sC.l1, .int .i64 sC.l2, .int .i64 sC.l3, .int .i64 sC.l4, .int .i64 sC.l5] #[.int .i64 9, .int .i64 0] 78 80
  replace HS := Lib.hid (HS.out.below hb)
  clear hb rA rB
  go_wp2_with fail
  go_ret
  have e9 : (KT.toList == G.toList) = false := by rw [beq_eq_false_iff_ne]; exact hT
  refine ⟨?_, HS.out.bl⟩
  show Ending.returned (Value.bool !(KT.toList == G.toList)) = _
  rw [e9]
  rfl

theorem bookConds_walk (body tag : ByteArray) (gone there : Bool) (w : World) (hbg : Begun5True) (h : LibAt w) :
    Calls Tryz.prog 7 #[.string body, .string tag, .bool gone, .bool there] w fun e w' => e = .returned (.bool true) ∧ Below w.heap.size w w' := by
  cases there with
  | false => exact conds_z body tag gone w hbg h
  | true =>
    cases gone with
    | true => exact conds_2 body tag w hbg h
    | false =>
      by_cases e : tagS (cutS tag 60) = tagS (cutS body 60)
      · exact conds_1e body tag w hbg h e
      · exact conds_1n body tag w hbg h (fun x => e (ba_toList_inj x))

end Go.Proofs.YtoealjcjpjapkaaGreatDoor
