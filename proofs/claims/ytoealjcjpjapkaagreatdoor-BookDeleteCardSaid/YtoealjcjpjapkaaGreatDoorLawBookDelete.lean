/-
  BookDelete answers true.
-/
import Derived.Test.YtoealjcjpjapkaaGreatDoorLbC
import Derived.Test.YtoealjcjpjapkaaGreatDoorLbD
import Derived.Test.YtoealjcjpjapkaaGreatDoorLbdP
import Derived.Test.YtoealjcjpjapkaaGreatDoorBkN2
import Derived.Test.YtoealjcjpjapkaaGreatDoorDigits2
import Derived.Test.YtoealjcjpjapkaaGreatDoorRA
import Derived.Test.YtoealjcjpjapkaaGreatDoorM03
import Derived.Test.YtoealjcjpjapkaaGreatDoorM04
import Derived.Test.YtoealjcjpjapkaaGreatDoorM14
import Derived.Test.YtoealjcjpjapkaaGreatDoorM36
namespace Go.Proofs.YtoealjcjpjapkaaGreatDoor
open Go.RowKit

theorem ds_step (i : Nat) (h : 1 ≤ i) (h6 : i ≤ 6) : doB (ds (i - 1)) (ddp i) true = (ds i, ⟨0, (i : Int)⟩) := by
  have := ds_do (i - 1) (by omega)
  rw [show i - 1 + 1 = i by omega] at this
  exact this

/-- A version's block. -/
def VBk (w : World) (b : Nat) (x : Ve) : Prop := w.heap[b]? = some (.cells #[.int .i64 x.ver, .bool x.gone, .string x.body] 60 (0, 0))

theorem VBk.below {w w' : World} {b : Nat} {x : Ve} (h : VBk w b x) (hb : Below w.heap.size w w') : VBk w' b x := (hb.block b (Array.getElem?_eq_some_iff.1 h).1).trans h

set_option maxRecDepth 100000 in
set_option maxHeartbeats 16000000 in
theorem bookDelete_walk (a0 : Int) (body : ByteArray) (w : World) (hbg : Begun5True) (h : LibAt w) :
    Calls Tryz.prog 8 #[.int .i64 a0, .string body] w fun e w' => e = .returned (.bool true) ∧ Below w.heap.size w w' := by
  have HB := Lib.hid (hbg w h)
  have HL := Lib.hid h
  have C1 := Lib.hid (cut_any body 300)
  have hB := cutS_size body 300
  generalize cutS body 300 = B at *
  obtain ⟨hw1, N, hN, hN1, hN6⟩ : IntKind.i64.wrap (a0.tmod 6 + 6) = a0.tmod 6 + 6 ∧ ∃ N : Nat, IntKind.i64.wrap (1 + (a0.tmod 6 + 6).tmod 6) = (N : Int) ∧ 1 ≤ N ∧ N ≤ 6 := by
    have g1 := Int.tmod_lt_of_pos a0 (show (0 : Int) < 6 by decide)
    have g2 := Int.lt_tmod_of_pos a0 (show (0 : Int) < 6 by decide)
    generalize a0.tmod 6 = r at *
    refine ⟨IntWalk.i64_in _ (by omega), ?_⟩
    have g3 := Int.tmod_lt_of_pos (r + 6) (show (0 : Int) < 6 by decide)
    have g4 := Int.tmod_nonneg 6 (show (0 : Int) ≤ r + 6 by omega)
    generalize (r + 6).tmod 6 = q at *
    exact ⟨(1 + q).toNat, by rw [IntWalk.i64_in _ (by omega)]; omega, by omega, by omega⟩
  have HN := Lib.hid (And.intro hN1 hN6)
  clear hbg h
  go_enter Tryz.func8, Tryz.ntmps8
  go_wp2_with fail
  refine HB.out.mono ?_
  rintro _ w0 ⟨rfl, hb⟩
  have HS := Lib.hid (SB.new HL.out hb)
  clear hb HB hN1 hN6
  go_wp2_with fail
  refine (C1.out _).mono ?_
  rintro _ _ ⟨rfl, rfl⟩
  go_wp2_with fail
  generalize w0.alloc (.cells #[.int .i64 0, .slice none 0 0, .slice none 0 0, .int .i64 0, .int .i64 0, .int .i64 0, .int .i64 0, .int .i64 0] 78) = W0 at *
  generalize w0.heap.size = E at *
  clear hw1 hN C1
  rw [← ds_zero] at HS
  go_loopw [7] (fun iv wr => ∃ (i : Nat) (a : Option Addr) (ln c : Nat) (b : Option Addr) (lm d : Nat), iv = .int .i64 i ∧ 1 ≤ i ∧ i ≤ N + 1 ∧ Hid (SB w wr E (ds (i - 1)) (.slice a ln c) (.slice b lm d))) (fun iv _ => N + 1 - (intOf iv).toNat)
  case atStart => exact ⟨1, none, 0, 0, none, 0, 0, rfl, by omega, by omega, HS⟩
  case round =>
    obtain ⟨i, a, ln, c, b, lm, d, rfl, hi1, hiN, HS⟩ := hrel
    by_cases hlt : i ≤ N
    · have hltz : (i : Int) ≤ (N : Int) := by omega
      have hi6 : i ≤ 6 := by have := HN.out; omega
      have RD := Lib.hid (rDigits (i : Int) (by omega) (by omega))
      rw [dl_dec i hi6] at RD
      have HP := Lib.hid (lput_any ⟨#[107]⟩ (dl i) (i : Int) (by omega) (by omega))
      have HDO := Lib.hid (fun u v W (h : SB w W E (ds (i - 1)) u v) => do_at (ddp i) h (ds_wf (i - 1) (by omega)) (ddp_wf i hi6) (ddp_may i hi1 hi6) rfl (.inl rfl))
      rw [ds_step i hi1 hi6] at HDO
      have HSH := Lib.hid (ds_short i hi6)
      have hwi : IntKind.i64.wrap ((i : Int) + 1) = (i : Int) + 1 := IntWalk.i64_in _ (by omega)
      obtain ⟨s1, hs1⟩ : ∃ s, ds i = s := ⟨_, rfl⟩
      rw [hs1] at HDO HSH
      have HSE := Lib.hid hs1
      clear hs1
      unfold DoAns bagg dagg ddp at HDO
      dsimp only at HDO
      generalize ds (i - 1) = s0 at *
      generalize dl i = D at *
      clear hlt
      go_wp2_with fail
      refine wp_region_D (S := fun L Y => L.getD 9 false = false → BC Y E s0 (.slice a ln c) (.slice b lm d)) (by kernel_rfl) (fun _ => HS.out.bc) (fun hS0 => ?_)
      refine wpAnyD_take (i := 0) (v := Value.agg #[.int .i64 s0.seq, .slice a ln c, .slice b lm d, .int .i64 s0.l1, .int .i64 s0.l2, .int .i64 s0.l3, .int .i64 s0.l4, .int .i64 s0.l5]) rfl (by kernel_rfl) (by kernel_rfl) (by kernel_rfl) (by kernel_rfl) (fun _ _ _ h => h) (fun L w => by simp only [getD_set_ne false (by decide : (0 : Nat) ≠ 9)]) (by kernel_rfl) hS0 ⟨by rfl, fun L w' hL hD hS => ?_⟩ (fun hS0 => ?_)
      · obtain ⟨q0, q1, q2, q3, q4, q5, q6, q7⟩ := (hS (blocked (j := 9) hD hL (by kernel_rfl))).cells
        refine .inl ?_
        go_simp
      refine wpAnyD_take (i := 1) (v := Value.int .i64 i) rfl (by kernel_rfl) (by kernel_rfl) (by kernel_rfl) (by kernel_rfl) (fun _ _ _ h => h) (fun L w => by simp only [getD_set_ne false (by decide : (1 : Nat) ≠ 9)]) (by kernel_rfl) hS0 ⟨by rfl, fun L w' hL hD hS => ?_⟩ (fun hS0 => ?_)
      · refine .inl ?_
        go_simp
      refine wpAnyD_take (i := 3) (v := Value.int .i64 i) rfl (by kernel_rfl) (by kernel_rfl) (by kernel_rfl) (by kernel_rfl) (fun _ _ _ h => h) (fun L w => by simp only [getD_set_ne false (by decide : (3 : Nat) ≠ 9)]) (by kernel_rfl) hS0 ⟨by rfl, fun L w' hL hD hS => ?_⟩ (fun hS0 => ?_)
      · refine .inl ?_
        go_simp
      simp only [List.getElem_toArray, List.getElem_cons_succ, List.getElem_cons_zero, Act.put, List.setIfInBounds_toArray, List.set_cons_zero, List.set_cons_succ]
      refine wpAnyD_one (i := 2) (by kernel_rfl) rfl (by kernel_rfl) (fun K hK => ?_)
      simp only [List.getElem_toArray, List.getElem_cons_succ, List.getElem_cons_zero]
      go_simp
      refine (RD.out _).mono ?_
      rintro _ w2 ⟨rfl, hb⟩
      replace hb : Below wr.heap.size wr w2 := (Below.refl wr.heap.size wr).drew.trans hb
      replace HS := Lib.hid (HS.out.below hb)
      clear hb hS0
      refine hK.out _ _ (fun _ => HS.out.bc) (fun hS0 => ?_)
      clear hK
      refine wpAnyD_one (i := 4) (by kernel_rfl) rfl (by kernel_rfl) (fun K hK => ?_)
      simp only [List.getElem_toArray, List.getElem_cons_succ, List.getElem_cons_zero]
      go_simp
      refine (HP.out _).mono ?_
      rintro _ w3 ⟨rfl, hb⟩
      replace HS := Lib.hid (HS.out.below hb)
      clear hb hS0
      refine hK.out _ _ (fun _ => HS.out.bc) (fun hS0 => ?_)
      clear hK
      refine wpAnyD_one (i := 5) (by kernel_rfl) rfl (by kernel_rfl) (fun K hK => ?_)
      simp only [List.getElem_toArray, List.getElem_cons_succ, List.getElem_cons_zero]
      go_simp
      refine (HDO.out _ _ _ HS.out).mono ?_
      rintro _ w4 ⟨a1, c1, b1, d1, rfl, ho, hm, hb⟩
      have HQ := Lib.hid (HS.out.store hb ho hm HSH.out.1 HSH.out.2.1 HSH.out.2.2)
      unfold bstore at HQ
      clear hS0
      have hB0 : BC w4 E s0 (.slice a ln c) (.slice b lm d) := HS.out.bc.below hb
      clear HS ho hm hb
      refine hK.out _ _ (fun _ => hB0) (fun hS0 => ?_)
      clear hK
      refine wpAnyD_take (i := 6) (v := Value.tuple #[.agg #[.int .i64 s1.seq, .slice a1 s1.l.length c1, .slice b1 s1.ms.length d1, .int .i64 s1.l1, .int .i64 s1.l2, .int .i64 s1.l3, .int .i64 s1.l4, .int .i64 s1.l5], .agg #[.int .i64 0, .int .i64 i]]) rfl (by kernel_rfl) (by kernel_rfl) (by kernel_rfl) (by kernel_rfl) (fun _ _ _ h => h) (fun L w => by simp only [getD_set_ne false (by decide : (6 : Nat) ≠ 9)]) (by kernel_rfl) hS0 ⟨by rfl, fun L w' hL hD hS => ?_⟩ (fun hS0 => ?_)
      · refine .inl ?_
        go_simp
      simp only [List.getElem_toArray, List.getElem_cons_succ, List.getElem_cons_zero, Act.put, List.setIfInBounds_toArray, List.set_cons_zero, List.set_cons_succ]
      refine wpAnyD_take (i := 7) (v := Value.agg #[.int .i64 s1.seq, .slice a1 s1.l.length c1, .slice b1 s1.ms.length d1, .int .i64 s1.l1, .int .i64 s1.l2, .int .i64 s1.l3, .int .i64 s1.l4, .int .i64 s1.l5]) rfl (by kernel_rfl) (by kernel_rfl) (by kernel_rfl) (by kernel_rfl) (fun _ _ _ h => h) (fun L w => by simp only [getD_set_ne false (by decide : (7 : Nat) ≠ 9)]) (by kernel_rfl) hS0 ⟨by rfl, fun L w' hL hD hS => ?_⟩ (fun hS0 => ?_)
      · refine .inl ?_
        go_simp
      simp only [List.getElem_toArray, List.getElem_cons_succ, List.getElem_cons_zero, Act.put, List.setIfInBounds_toArray, List.set_cons_zero, List.set_cons_succ]
      refine wpAnyD_take (i := 8) (v := Value.agg #[.int .i64 0, .int .i64 i]) rfl (by kernel_rfl) (by kernel_rfl) (by kernel_rfl) (by kernel_rfl) (fun _ _ _ h => h) (fun L w => by simp only [getD_set_ne false (by decide : (8 : Nat) ≠ 9)]) (by kernel_rfl) hS0 ⟨by rfl, fun L w' hL hD hS => ?_⟩ (fun hS0 => ?_)
      · refine .inl ?_
        go_simp
      simp only [List.getElem_toArray, List.getElem_cons_succ, List.getElem_cons_zero, Act.put, List.setIfInBounds_toArray, List.set_cons_zero, List.set_cons_succ]
      obtain ⟨q0, q1, q2, q3, q4, q5, q6, q7⟩ := hB0.cells
      have ql := hB0.lt
      have f0 := hB0.free 0
      have f1 := hB0.free 1
      have f2 := hB0.free 2
      have f3 := hB0.free 3
      have f4 := hB0.free 4
      have f5 := hB0.free 5
      have f6 := hB0.free 6
      have f7 := hB0.free 7
      refine wpAnyD_one (i := 9) (by kernel_rfl) rfl (by kernel_rfl) (fun K hK => ?_)
      simp only [List.getElem_toArray, List.getElem_cons_succ, List.getElem_cons_zero]
      go_simp
      refine hK.out _ _ (fun h => (by cases h)) (fun hS0 => ?_)
      clear hK hS0
      refine wpAnyD_done (by kernel_rfl) ?_ _
      generalize ((((((((w4.setCell ⟨E, 0, none⟩ (.int .i64 s1.seq)).setCell ⟨E, 1, none⟩ ((.slice a1 s1.l.length c1))).setCell ⟨E, 2, none⟩ ((.slice b1 s1.ms.length d1))).setCell ⟨E, 3, none⟩ (.int .i64 s1.l1)).setCell ⟨E, 4, none⟩ (.int .i64 s1.l2)).setCell ⟨E, 5, none⟩ (.int .i64 s1.l3)).setCell ⟨E, 6, none⟩ (.int .i64 s1.l4)).setCell ⟨E, 7, none⟩ (.int .i64 s1.l5)) = W5 at *
      clear q0 q1 q2 q3 q4 q5 q6 q7 ql f0 f1 f2 f3 f4 f5 f6 f7 hB0
      go_wp2_with fail
      go_roundw
      case rel => exact ⟨i + 1, a1, s1.l.length, c1, b1, s1.ms.length, d1, by go_num, by omega, by omega, Lib.hid (by show SB w _ E (ds i) _ _; rw [HSE.out]; exact HQ.out)⟩
      case measure => simp [intOf]; omega
    · have hltz : ¬ (i : Int) ≤ (N : Int) := by omega
      have hiN1 : i - 1 = N := by omega
      rw [hiN1] at HS
      clear hiN1 hlt
      --MID
      have HDD := Lib.hid (fun u v W (h : SB w W E (ds N) u v) => do_at ddd h (ds_wf N HN.out.2) ddd_wf ddd_may rfl (.inr rfl))
      rw [dg_do N HN.out.1 HN.out.2] at HDD
      have HSD := Lib.hid (dg_short N HN.out.2)
      have HG0 := Lib.hid (fun u v W (h : SB w W E (dgB N) u v) => bget_p (dgB N) ⟨#[107]⟩ 0 u v W h.at')
      have HGN := Lib.hid (fun u v W (h : SB w W E (dgB N) u v) => bget_p (dgB N) ⟨#[107]⟩ ((N : Int) + 1) u v W h.at')
      have HGI := Lib.hid (fun (i : Nat) (h1 : 1 ≤ i) (h2 : i ≤ N) u v W (h : SB w W E (dgB N) u v) => (dg_geti N i HN.out.1 HN.out.2 h1 h2) ▸ bget_p (dgB N) ⟨#[107]⟩ (i : Int) u v W h.at')
      have HNA := Lib.hid (fun u v W (h : SB w W E (dgB N) u v) => names0 (dgB N) (dge N) u v W h.at' rfl rfl (by rw [dge_len]; have := HN.out; omega) (dge_now N HN.out.1 HN.out.2))
      have HVE := Lib.hid (fun u v W (h : SB w W E (dgB N) u v) => vers1 (dgB N) (dge N) u v W h.at' rfl rfl (by rw [dge_len]; have := HN.out; omega))
      have HDF := Lib.hid (fun u v W (h : SB w W E (dgB N) u v) => do_at (ddz B) h (dg_wf N HN.out.2) (ddz_wf B) (ddz_may hB) rfl (.inl rfl))
      rw [df_do N B HN.out.1 HN.out.2] at HDF
      have HSF := Lib.hid (df_short N B HN.out.2)
      have HGF := Lib.hid (fun u v W (h : SB w W E (df N B) u v) => bget_p (df N B) ⟨#[107]⟩ 0 u v W h.at')
      have HP := Lib.hid (lput_any ⟨#[107]⟩ B 60 (by decide) (by decide))
      rw [dg_get0 N HN.out.1 HN.out.2] at HG0
      rw [dg_getn N HN.out.1 HN.out.2] at HGN
      rw [df_get N B HN.out.1 HN.out.2] at HGF
      have HEL := Lib.hid (dge_len N)
      have hwn : IntKind.i64.wrap ((N : Int) + 1) = (N : Int) + 1 := IntWalk.i64_in _ (by have := HN.out; omega)
      have hwn2 : IntKind.i64.wrap ((N : Int) + 2) = (N : Int) + 2 := IntWalk.i64_in _ (by have := HN.out; omega)
      rw [show ((N + 1 : Nat) : Int) = (N : Int) + 1 by omega] at HDD
      rw [show ((N + 2 : Nat) : Int) = (N : Int) + 2 by omega] at HDF HGF
      unfold DoAns bagg dagg ddd at HDD
      unfold DoAns bagg dagg ddz at HDF
      unfold bagg veagg at HG0 HGN HGI HGF
      unfold bagg at HNA HVE
      dsimp only [Ve.zero] at HDD HDF HG0 HGN HGI HGF HNA HVE
      generalize dgB N = s1 at *
      generalize df N B = s2 at *
      generalize ds N = s0 at *
      generalize dge N = e0 at *
      obtain ⟨q0, q1, q2, q3, q4, q5, q6, q7⟩ := HS.out.bc.cells
      have ql := HS.out.bc.lt
      go_wp2_with fail
      refine (HDD.out _ _ _ HS.out).mono ?_
      rintro _ w2 ⟨a1, c1, b1, d1, rfl, ho, hm, hb⟩
      have HQ := Lib.hid (HS.out.store hb ho hm HSD.out.1 HSD.out.2.1 HSD.out.2.2)
      have HZ3 := Lib.hid (bstore_size w2 E s1 (.slice a1 s1.l.length c1) (.slice b1 s1.ms.length d1))
      unfold bstore at HQ HZ3
      have HBC := Lib.hid (HS.out.bc.below hb)
      clear HS q0 q1 q2 q3 q4 q5 q6 q7 ql
      obtain ⟨q0, q1, q2, q3, q4, q5, q6, q7⟩ := HBC.out.cells
      have ql := HBC.out.lt
      have f0 := HBC.out.free 0
      have f1 := HBC.out.free 1
      have f2 := HBC.out.free 2
      have f3 := HBC.out.free 3
      have f4 := HBC.out.free 4
      have f5 := HBC.out.free 5
      have f6 := HBC.out.free 6
      have f7 := HBC.out.free 7
      go_wp2_with fail
      --AFTERDEL
      generalize ((((((((w2.setCell ⟨E, 0, none⟩ (.int .i64 s1.seq)).setCell ⟨E, 1, none⟩ ((.slice a1 s1.l.length c1))).setCell ⟨E, 2, none⟩ ((.slice b1 s1.ms.length d1))).setCell ⟨E, 3, none⟩ (.int .i64 s1.l1)).setCell ⟨E, 4, none⟩ (.int .i64 s1.l2)).setCell ⟨E, 5, none⟩ (.int .i64 s1.l3)).setCell ⟨E, 6, none⟩ (.int .i64 s1.l4)).setCell ⟨E, 7, none⟩ (.int .i64 s1.l5)) = W3 at *
      have hz3 : W3.heap.size = w2.heap.size := HZ3.out
      have hb : Below W3.heap.size W3 (W3.alloc (.cells #[.int .i64 0, .int .i64 ((N : Int) + 1)] 80)) := (Below.refl _ _).alloc (Nat.le_refl _) _
      have HS := Lib.hid (HQ.out.below hb)
      have HR : Hid (RC (W3.alloc (.cells #[.int .i64 0, .int .i64 ((N : Int) + 1)] 80)) W3.heap.size ⟨0, (N : Int) + 1⟩) := Lib.hid (RC.new W3 ⟨0, (N : Int) + 1⟩)
      rw [hz3] at HR
      clear hb hz3 HZ3 HQ HBC ho hm q0 q1 q2 q3 q4 q5 q6 q7 ql f0 f1 f2 f3 f4 f5 f6 f7
      generalize W3.alloc (.cells #[.int .i64 0, .int .i64 ((N : Int) + 1)] 80) = W4 at *
      generalize w2.heap.size = XR at *
      refine (HG0.out _ _ _ HS.out).mono ?_
      rintro _ w5 ⟨rfl, hb⟩
      replace HS := Lib.hid (HS.out.below hb)
      replace HR := Lib.hid (HR.out.below hb)
      clear hb
      obtain ⟨q0, q1, q2, q3, q4, q5, q6, q7⟩ := HS.out.bc.cells
      have ql := HS.out.bc.lt
      go_wp2_with fail
      clear q0 q1 q2 q3 q4 q5 q6 q7 ql
      have hb : Below w5.heap.size w5 (w5.alloc (.cells #[.int .i64 0, .bool false, .string ⟨#[]⟩] 60)) := (Below.refl _ _).alloc (Nat.le_refl _) _
      replace HS := Lib.hid (HS.out.below hb)
      replace HR := Lib.hid (HR.out.below hb)
      clear hb
      generalize w5.alloc (.cells #[.int .i64 0, .bool false, .string ⟨#[]⟩] 60) = W5 at *
      refine (HGN.out _ _ _ HS.out).mono ?_
      rintro _ w6 ⟨rfl, hb⟩
      replace HS := Lib.hid (HS.out.below hb)
      replace HR := Lib.hid (HR.out.below hb)
      clear hb
      obtain ⟨q0, q1, q2, q3, q4, q5, q6, q7⟩ := HS.out.bc.cells
      have ql := HS.out.bc.lt
      go_wp2_with fail
      clear q0 q1 q2 q3 q4 q5 q6 q7 ql
      have hb : Below w6.heap.size w6 (w6.alloc (.cells #[.int .i64 0, .bool false, .string ⟨#[]⟩] 60)) := (Below.refl _ _).alloc (Nat.le_refl _) _
      replace HS := Lib.hid (HS.out.below hb)
      replace HR := Lib.hid (HR.out.below hb)
      clear hb
      generalize w6.alloc (.cells #[.int .i64 0, .bool false, .string ⟨#[]⟩] 60) = W6 at *
      refine (HNA.out _ _ _ HS.out).mono ?_
      rintro _ w7 ⟨na, nc, rfl, hb⟩
      replace HS := Lib.hid (HS.out.below hb)
      replace HR := Lib.hid (HR.out.below hb)
      clear hb
      obtain ⟨q0, q1, q2, q3, q4, q5, q6, q7⟩ := HS.out.bc.cells
      have ql := HS.out.bc.lt
      go_wp2_with fail
      clear q0 q1 q2 q3 q4 q5 q6 q7 ql
      have heb : E < w7.heap.size := HS.out.bc.lt
      refine (HVE.out _ _ _ HS.out).mono ?_
      rintro _ w8 ⟨va, vc, rfl, hes, hb⟩
      replace HS := Lib.hid (HS.out.below hb)
      replace HR := Lib.hid (HR.out.below hb)
      clear hb
      have HES := Lib.hid hes
      have HEB := Lib.hid heb
      clear hes heb
      generalize w7.heap.size = BB at *
      obtain ⟨q0, q1, q2, q3, q4, q5, q6, q7⟩ := HS.out.bc.cells
      have ql := HS.out.bc.lt
      go_wp2_with fail
      clear q0 q1 q2 q3 q4 q5 q6 q7 ql
      clear HDD HG0 HGN HNA HVE HSD
      go_loopw [17] (fun iv wr => ∃ (i : Nat), iv = .int .i64 i ∧ 1 ≤ i ∧ i ≤ N + 1 ∧ Hid (SB w wr E s1 (.slice a1 s1.l.length c1) (.slice b1 s1.ms.length d1)) ∧ Hid (RC wr XR ⟨0, (N : Int) + 1⟩) ∧ Hid (EOwn wr BB (.slice va 1 vc) [e0])) (fun iv _ => N + 1 - (intOf iv).toNat)
      case atStart => exact ⟨1, rfl, by omega, by omega, HS, HR, HES⟩
      case round =>
        obtain ⟨i, rfl, hi1, hiN, HS, HR, HES⟩ := hrel
        by_cases hlt : i ≤ N
        · have hltz : (i : Int) ≤ (N : Int) := by omega
          have hi6 : i ≤ 6 := by have := HN.out; omega
          have RD := Lib.hid (rDigits (i : Int) (by omega) (by omega))
          rw [dl_dec i hi6] at RD
          have HGX := Lib.hid (HGI.out i hi1 hlt)
          have hwi : IntKind.i64.wrap ((i : Int) + 1) = (i : Int) + 1 := IntWalk.i64_in _ (by omega)
          generalize dl i = D at *
          clear hlt
          obtain ⟨q0, q1, q2, q3, q4, q5, q6, q7⟩ := HS.out.bc.cells
          have ql := HS.out.bc.lt
          go_wp2_with fail
          clear q0 q1 q2 q3 q4 q5 q6 q7 ql
          refine (HGX.out _ _ _ HS.out).mono ?_
          rintro _ x1 ⟨rfl, hb⟩
          replace HS := Lib.hid (HS.out.below hb)
          replace HR := Lib.hid (HR.out.below hb)
          replace HES := Lib.hid (HES.out.below hb)
          clear hb
          go_wp2_with fail
          have hb : Below x1.heap.size x1 (x1.alloc (.cells #[.int .i64 i, .bool false, .string D] 60)) := (Below.refl _ _).alloc (Nat.le_refl _) _
          replace HS := Lib.hid (HS.out.below hb)
          replace HR := Lib.hid (HR.out.below hb)
          replace HES := Lib.hid (HES.out.below hb)
          have HV : Hid (VBk (x1.alloc (.cells #[.int .i64 i, .bool false, .string D] 60)) x1.heap.size ⟨i, false, D⟩) := Lib.hid (heap_alloc_new x1 _)
          clear hb
          generalize x1.alloc (.cells #[.int .i64 i, .bool false, .string D] 60) = X1 at *
          generalize x1.heap.size = XV at *
          refine wp_region_held (S := fun Y => Below X1.heap.size X1 Y) (by kernel_rfl) ?_
          change wpAnyH _ _ _ _ _ _ _ _ (World.drew X1)
          have hS0 : Below X1.heap.size X1 X1.drew := (Below.refl X1.heap.size X1).drew
          refine wpAnyH_take (i := 0) (v := Value.int .i64 0) rfl (by kernel_rfl) (by kernel_rfl) (by kernel_rfl) (fun _ _ _ h => h) (Or.inl ⟨by kernel_rfl, ?_⟩) hS0 ?_
          · intro w' hS; go_simp
          refine wpAnyH_take (i := 1) (v := Value.bool false) rfl (by kernel_rfl) (by kernel_rfl) (by kernel_rfl) (fun _ _ _ h => h) (Or.inl ⟨by kernel_rfl, ?_⟩) hS0 ?_
          · intro w' hS; go_simp
          refine wpAnyH_take (i := 2) (v := Value.bool false) rfl (by kernel_rfl) (by kernel_rfl) (by kernel_rfl) (fun _ _ _ h => h) (Or.inl ⟨by kernel_rfl, ?_⟩) hS0 ?_
          · intro w' hS; go_simp
          refine wpAnyH_take (i := 3) (v := Value.pointer (some ⟨XV, 2, none⟩)) rfl (by kernel_rfl) (by kernel_rfl) (by kernel_rfl) (fun _ _ _ h => h) (Or.inl ⟨by kernel_rfl, ?_⟩) hS0 ?_
          · intro w' hS; go_simp
          refine wpAnyH_take (i := 4) (v := Value.string D) rfl (by kernel_rfl) (by kernel_rfl) (by kernel_rfl) (fun _ _ _ h => h) (Or.inl ⟨by kernel_rfl, ?_⟩) hS0 ?_
          · intro w' hS; have s2 := (block_facts (HV.out.below hS)).2.2.2.2 2 _ rfl; dsimp only at s2; go_simp
          refine wpAnyH_take (i := 5) (v := Value.int .i64 i) rfl (by kernel_rfl) (by kernel_rfl) (by kernel_rfl) (fun _ _ _ h => h) (Or.inl ⟨by kernel_rfl, ?_⟩) hS0 ?_
          · intro w' hS; go_simp
          refine wpAnyH_ready (rs := [6]) (by kernel_rfl) (by simp) ?_
          refine AllReadyH.cons rfl (fun K hK => ?_) AllReadyH.nil
          rw [if_pos (by kernel_rfl)]
          go_simp
          refine (RD.out _).mono ?_
          rintro _ x2 ⟨rfl, hb9⟩
          refine hK.out _ _ (hS0.trans (hb9.mono hS0.size)) (fun hS0' => ?_)
          clear hK hb9 hS0
          have hS0 := hS0'
          clear hS0'
          refine wpAnyH_take (i := 7) (v := Value.bool false) rfl (by kernel_rfl) (by kernel_rfl) (by kernel_rfl) (fun _ _ _ h => h) (Or.inl ⟨by kernel_rfl, ?_⟩) hS0 ?_
          · intro w' hS; go_simp
          refine wpAnyH_take (i := 8) (v := Value.bool false) rfl (by kernel_rfl) (by kernel_rfl) (by kernel_rfl) (fun _ _ _ h => h) (Or.inl ⟨by kernel_rfl, ?_⟩) hS0 ?_
          · intro w' hS; go_simp
          refine wpAnyH_done (by kernel_rfl) ?_ _
          replace HS := Lib.hid (HS.out.below hS0)
          replace HR := Lib.hid (HR.out.below hS0)
          replace HES := Lib.hid (HES.out.below hS0)
          clear hS0 HV
          go_wp2_with fail
          go_roundw
          case rel => exact ⟨i + 1, by go_num, by omega, by omega, HS, HR, HES⟩
          case measure => simp [intOf]; omega
        · have hltz : ¬ (i : Int) ≤ (N : Int) := by omega
          clear hlt HGI hiN hi1
          go_wp2_with fail
          --R22
          refine wp_region_D (S := fun L Y => L.getD 8 false = false → BC Y E s1 (.slice a1 s1.l.length c1) (.slice b1 s1.ms.length d1)) (by kernel_rfl) (fun _ => HS.out.bc) (fun hS0 => ?_)
          refine wpAnyD_take (i := 0) (v := Value.agg #[.int .i64 s1.seq, .slice a1 s1.l.length c1, .slice b1 s1.ms.length d1, .int .i64 s1.l1, .int .i64 s1.l2, .int .i64 s1.l3, .int .i64 s1.l4, .int .i64 s1.l5]) rfl (by kernel_rfl) (by kernel_rfl) (by kernel_rfl) (by kernel_rfl) (fun _ _ _ h => h) (fun L w => by simp only [getD_set_ne false (by decide : (0 : Nat) ≠ 8)]) (by kernel_rfl) hS0 ⟨by rfl, fun L w' hL hD hS => ?_⟩ (fun hS0 => ?_)
          · obtain ⟨q0, q1, q2, q3, q4, q5, q6, q7⟩ := (hS (blocked (j := 8) hD hL (by kernel_rfl))).cells
            refine .inl ?_
            go_simp
          refine wpAnyD_take (i := 1) (v := Value.string B) rfl (by kernel_rfl) (by kernel_rfl) (by kernel_rfl) (by kernel_rfl) (fun _ _ _ h => h) (fun L w => by simp only [getD_set_ne false (by decide : (1 : Nat) ≠ 8)]) (by kernel_rfl) hS0 ⟨by rfl, fun L w' hL hD hS => ?_⟩ (fun hS0 => ?_)
          · refine .inl ?_
            go_simp
          simp only [List.getElem_toArray, List.getElem_cons_succ, List.getElem_cons_zero, Act.put, List.setIfInBounds_toArray, List.set_cons_zero, List.set_cons_succ]
          have HWS := Lib.hid HS.out.bl.size
          refine wpAnyD_two (i := 2) (j := 7) (by kernel_rfl) rfl rfl (by kernel_rfl) (fun K hK => ?_) (fun K hK => ?_)
          · skip
            simp only [List.getElem_toArray, List.getElem_cons_succ, List.getElem_cons_zero]
            go_simp
            refine (HP.out _).mono ?_
            rintro _ x3 ⟨rfl, hb⟩
            replace hb : Below wr.heap.size wr x3 := (Below.refl wr.heap.size wr).drew.trans hb
            replace HS := Lib.hid (HS.out.below hb)
            replace HR := Lib.hid (HR.out.below hb)
            replace HES := Lib.hid (HES.out.below hb)
            clear hb hS0
            refine hK.out _ _ (fun _ => HS.out.bc) (fun hS0 => ?_)
            clear hK
            refine wpAnyD_two (i := 3) (j := 7) (by kernel_rfl) rfl rfl (by kernel_rfl) (fun K hK => ?_) (fun K hK => ?_)
            · skip
              simp only [List.getElem_toArray, List.getElem_cons_succ, List.getElem_cons_zero]
              go_simp
              have HSL := Lib.hid HS.out.bc.lt
              refine (HDF.out _ _ _ HS.out).mono ?_
              rintro _ x4 ⟨a2, c2, b2, d2, rfl, ho, hm, hb⟩
              replace HR := Lib.hid (HR.out.below hb)
              replace HES := Lib.hid (HES.out.below hb)
              have HBC := Lib.hid (HS.out.bc.below hb)
              have HDO := Lib.hid (And.intro ho (And.intro hm hb))
              clear hb hS0 ho hm
              refine hK.out _ _ (fun _ => HBC.out) (fun hS0 => ?_)
              clear hK
              refine wpAnyD_take (i := 4) (v := Value.tuple #[.agg #[.int .i64 s2.seq, .slice a2 s2.l.length c2, .slice b2 s2.ms.length d2, .int .i64 s2.l1, .int .i64 s2.l2, .int .i64 s2.l3, .int .i64 s2.l4, .int .i64 s2.l5], .agg #[.int .i64 0, .int .i64 ((N : Int) + 2)]]) rfl (by kernel_rfl) (by kernel_rfl) (by kernel_rfl) (by kernel_rfl) (fun _ _ _ h => h) (fun L w => by simp only [getD_set_ne false (by decide : (4 : Nat) ≠ 8)]) (by kernel_rfl) hS0 ⟨by rfl, fun L w' hL hD hS => ?_⟩ (fun hS0 => ?_)
              · refine .inl ?_
                go_simp
              simp only [List.getElem_toArray, List.getElem_cons_succ, List.getElem_cons_zero, Act.put, List.setIfInBounds_toArray, List.set_cons_zero, List.set_cons_succ]
              refine wpAnyD_take (i := 5) (v := Value.agg #[.int .i64 s2.seq, .slice a2 s2.l.length c2, .slice b2 s2.ms.length d2, .int .i64 s2.l1, .int .i64 s2.l2, .int .i64 s2.l3, .int .i64 s2.l4, .int .i64 s2.l5]) rfl (by kernel_rfl) (by kernel_rfl) (by kernel_rfl) (by kernel_rfl) (fun _ _ _ h => h) (fun L w => by simp only [getD_set_ne false (by decide : (5 : Nat) ≠ 8)]) (by kernel_rfl) hS0 ⟨by rfl, fun L w' hL hD hS => ?_⟩ (fun hS0 => ?_)
              · refine .inl ?_
                go_simp
              simp only [List.getElem_toArray, List.getElem_cons_succ, List.getElem_cons_zero, Act.put, List.setIfInBounds_toArray, List.set_cons_zero, List.set_cons_succ]
              refine wpAnyD_take (i := 6) (v := Value.agg #[.int .i64 0, .int .i64 ((N : Int) + 2)]) rfl (by kernel_rfl) (by kernel_rfl) (by kernel_rfl) (by kernel_rfl) (fun _ _ _ h => h) (fun L w => by simp only [getD_set_ne false (by decide : (6 : Nat) ≠ 8)]) (by kernel_rfl) hS0 ⟨by rfl, fun L w' hL hD hS => ?_⟩ (fun hS0 => ?_)
              · refine .inl ?_
                go_simp
              simp only [List.getElem_toArray, List.getElem_cons_succ, List.getElem_cons_zero, Act.put, List.setIfInBounds_toArray, List.set_cons_zero, List.set_cons_succ]
              refine wpAnyD_one (i := 7) (by kernel_rfl) rfl (by kernel_rfl) (fun K hK => ?_)
              simp only [List.getElem_toArray, List.getElem_cons_succ, List.getElem_cons_zero]
              go_simp
              have HRL := HR.out.lt
              have HXW := Lib.hid (show w.heap.size ≤ x4.heap.size from Nat.le_trans HS.out.bl.size HDO.out.2.2.size)
              have hb : Below x4.heap.size x4 (x4.alloc (.cells #[.int .i64 0, .int .i64 0] 80)) := (Below.refl _ _).alloc (Nat.le_refl _) _
              have HX : Hid (RC (x4.alloc (.cells #[.int .i64 0, .int .i64 0] 80)) x4.heap.size ⟨0, 0⟩) := Lib.hid (RC.new x4 ⟨0, 0⟩)
              replace HR := Lib.hid (HR.out.below hb)
              replace HES := Lib.hid (HES.out.below hb)
              replace HBC := Lib.hid (HBC.out.below hb)
              replace HDO := Lib.hid (And.intro (HDO.out.1.below hb) (And.intro (HDO.out.2.1.below hb) (HDO.out.2.2.trans (hb.mono HDO.out.2.2.size))))
              have HXR : Hid (XR ≠ x4.heap.size) := Lib.hid (by have := HRL; omega)
              clear hb HRL
              refine hK.out _ _ (fun _ => HBC.out) (fun hS0' => ?_)
              clear hK hS0
              have hS0 := hS0'
              clear hS0'
              generalize x4.alloc (.cells #[.int .i64 0, .int .i64 0] 80) = X5 at *
              generalize x4.heap.size = XX at *
              have hxe : XX ≠ E := rc_ne HX.out HBC.out
              obtain ⟨h1, h2, h3⟩ := HS.out.store2 HDO.out.2.2 HDO.out.1 HDO.out.2.1 HSF.out.1 HSF.out.2.1 HSF.out.2.2
              have HQ := Lib.hid h1
              have HQE := Lib.hid h2
              have HQM := Lib.hid h3
              clear h1 h2 h3
              have HRE : XR ≠ E := rc_ne HR.out HBC.out
              replace HR := Lib.hid ((bstore_rc s2 (.slice a2 s2.l.length c2) (.slice b2 s2.ms.length d2) HRE).2 HR.out)
              replace HX := Lib.hid ((bstore_rc s2 (.slice a2 s2.l.length c2) (.slice b2 s2.ms.length d2) hxe).2 HX.out)
              replace HES := Lib.hid (HES.out.kept (w' := bstore X5 E s2 (.slice a2 s2.l.length c2) (.slice b2 s2.ms.length d2)) (fun j hj _ => bstore_heap _ _ _ _ _ (by have := HEB.out; omega)))
              unfold bstore at HQ HQE HQM HR HX HES
              obtain ⟨q0, q1, q2, q3, q4, q5, q6, q7⟩ := HBC.out.cells
              have ql := HBC.out.lt
              have f0 := HBC.out.free 0
              have f1 := HBC.out.free 1
              have f2 := HBC.out.free 2
              have f3 := HBC.out.free 3
              have f4 := HBC.out.free 4
              have f5 := HBC.out.free 5
              have f6 := HBC.out.free 6
              have f7 := HBC.out.free 7
              clear HS HDO HRE HBC
              refine wpAnyD_one (i := 8) (by kernel_rfl) rfl (by kernel_rfl) (fun K hK => ?_)
              simp only [List.getElem_toArray, List.getElem_cons_succ, List.getElem_cons_zero]
              go_simp
              refine hK.out _ _ (fun h => (by cases h)) (fun hS0' => ?_)
              clear hK hS0 hS0' q0 q1 q2 q3 q4 q5 q6 q7 ql f0 f1 f2 f3 f4 f5 f6 f7
              generalize ((((((((X5.setCell ⟨E, 0, none⟩ (.int .i64 s2.seq)).setCell ⟨E, 1, none⟩ ((.slice a2 s2.l.length c2))).setCell ⟨E, 2, none⟩ ((.slice b2 s2.ms.length d2))).setCell ⟨E, 3, none⟩ (.int .i64 s2.l1)).setCell ⟨E, 4, none⟩ (.int .i64 s2.l2)).setCell ⟨E, 5, none⟩ (.int .i64 s2.l3)).setCell ⟨E, 6, none⟩ (.int .i64 s2.l4)).setCell ⟨E, 7, none⟩ (.int .i64 s2.l5)) = Y8 at *
              obtain ⟨x0, x1, g0, g1⟩ := HX.out.facts
              dsimp only at x0 x1
              have xl := HX.out.lt
              refine wpAnyD_one (i := 9) (by kernel_rfl) rfl (by kernel_rfl) (fun K hK => ?_)
              simp only [List.getElem_toArray, List.getElem_cons_succ, List.getElem_cons_zero]
              go_simp
              obtain ⟨h1, h2⟩ := HQ.out.res ⟨0, (N : Int) + 2⟩ HQE.out HQM.out HX.out HXW.out
              have HS := Lib.hid h1
              replace HES := Lib.hid (eown_res ⟨0, (N : Int) + 2⟩ HES.out HX.out)
              replace HR := Lib.hid (rc_res (X := XX) ⟨0, (N : Int) + 2⟩ HR.out HXR.out)
              replace HX := Lib.hid h2
              clear h1 h2 HQ HQE HQM
              dsimp only at HS HES HR HX
              refine hK.out _ _ (fun h => (by cases h)) (fun hS0' => ?_)
              clear hK hS0' x0 x1 g0 g1 xl hxe
              refine wpAnyD_done (by kernel_rfl) ?_ _
              generalize (Y8.setCell ⟨XX, 0, none⟩ (.int .i64 0)).setCell ⟨XX, 1, none⟩ (.int .i64 ((N : Int) + 2)) = Y9 at *
              obtain ⟨q0, q1, q2, q3, q4, q5, q6, q7⟩ := HS.out.bc.cells
              have ql := HS.out.bc.lt
              go_wp2_with fail
              clear q0 q1 q2 q3 q4 q5 q6 q7 ql
              refine (HGF.out _ _ _ HS.out).mono ?_
              rintro _ y1 ⟨rfl, hb⟩
              replace HS := Lib.hid (HS.out.below hb)
              replace HR := Lib.hid (HR.out.below hb)
              replace HX := Lib.hid (HX.out.below hb)
              replace HES := Lib.hid (HES.out.below hb)
              clear hb
              obtain ⟨r0, r1, -, -⟩ := HR.out.facts
              obtain ⟨x0, x1, -, -⟩ := HX.out.facts
              dsimp only at r0 r1 x0 x1
              have rl := HR.out.lt
              have xl := HX.out.lt
              obtain ⟨g, og, ga, gm, rfl, -, k1, kl, -⟩ := HES.out.at.get (j := 0) (x := e0) rfl
              rw [HEL.out, Nat.zero_mul, Nat.add_zero] at k1
              have hbz : Below w.heap.size w (y1.alloc (.cells #[.int .i64 ((N : Int) + 2), .bool false, .string B] 60)) := HS.out.bl.alloc HS.out.bl.size _
              have HBZ := Lib.hid hbz
              clear hbz
              go_wp2_with fail
              go_ret
              exact ⟨rfl, HBZ.out⟩
            · skip
              simp only [List.getElem_toArray, List.getElem_cons_succ, List.getElem_cons_zero]
              go_simp
              have HRL := HR.out.lt
              have HXW := Lib.hid HS.out.bl.size
              have hb : Below x3.heap.size x3 (x3.alloc (.cells #[.int .i64 0, .int .i64 0] 80)) := (Below.refl _ _).alloc (Nat.le_refl _) _
              have HX : Hid (RC (x3.alloc (.cells #[.int .i64 0, .int .i64 0] 80)) x3.heap.size ⟨0, 0⟩) := Lib.hid (RC.new x3 ⟨0, 0⟩)
              replace HS := Lib.hid (HS.out.below hb)
              replace HR := Lib.hid (HR.out.below hb)
              replace HES := Lib.hid (HES.out.below hb)
              have HXR : Hid (XR ≠ x3.heap.size) := Lib.hid (by have := HRL; omega)
              clear hb HRL hS0
              refine hK.out _ _ (fun _ => HS.out.bc) (fun hS0 => ?_)
              clear hK
              generalize x3.alloc (.cells #[.int .i64 0, .int .i64 0] 80) = X5 at *
              generalize x3.heap.size = XX at *
              refine wpAnyD_one (i := 3) (by kernel_rfl) rfl (by kernel_rfl) (fun K hK => ?_)
              simp only [List.getElem_toArray, List.getElem_cons_succ, List.getElem_cons_zero]
              go_simp
              have HSL := Lib.hid HS.out.bc.lt
              refine (HDF.out _ _ _ HS.out).mono ?_
              rintro _ x4 ⟨a2, c2, b2, d2, rfl, ho, hm, hb⟩
              replace HR := Lib.hid (HR.out.below hb)
              replace HES := Lib.hid (HES.out.below hb)
              replace HX := Lib.hid (HX.out.below hb)
              have HBC := Lib.hid (HS.out.bc.below hb)
              have HDO := Lib.hid (And.intro ho (And.intro hm hb))
              clear hb hS0 ho hm
              refine hK.out _ _ (fun _ => HBC.out) (fun hS0 => ?_)
              clear hK
              refine wpAnyD_take (i := 4) (v := Value.tuple #[.agg #[.int .i64 s2.seq, .slice a2 s2.l.length c2, .slice b2 s2.ms.length d2, .int .i64 s2.l1, .int .i64 s2.l2, .int .i64 s2.l3, .int .i64 s2.l4, .int .i64 s2.l5], .agg #[.int .i64 0, .int .i64 ((N : Int) + 2)]]) rfl (by kernel_rfl) (by kernel_rfl) (by kernel_rfl) (by kernel_rfl) (fun _ _ _ h => h) (fun L w => by simp only [getD_set_ne false (by decide : (4 : Nat) ≠ 8)]) (by kernel_rfl) hS0 ⟨by rfl, fun L w' hL hD hS => ?_⟩ (fun hS0 => ?_)
              · refine .inl ?_
                go_simp
              simp only [List.getElem_toArray, List.getElem_cons_succ, List.getElem_cons_zero, Act.put, List.setIfInBounds_toArray, List.set_cons_zero, List.set_cons_succ]
              refine wpAnyD_take (i := 5) (v := Value.agg #[.int .i64 s2.seq, .slice a2 s2.l.length c2, .slice b2 s2.ms.length d2, .int .i64 s2.l1, .int .i64 s2.l2, .int .i64 s2.l3, .int .i64 s2.l4, .int .i64 s2.l5]) rfl (by kernel_rfl) (by kernel_rfl) (by kernel_rfl) (by kernel_rfl) (fun _ _ _ h => h) (fun L w => by simp only [getD_set_ne false (by decide : (5 : Nat) ≠ 8)]) (by kernel_rfl) hS0 ⟨by rfl, fun L w' hL hD hS => ?_⟩ (fun hS0 => ?_)
              · refine .inl ?_
                go_simp
              simp only [List.getElem_toArray, List.getElem_cons_succ, List.getElem_cons_zero, Act.put, List.setIfInBounds_toArray, List.set_cons_zero, List.set_cons_succ]
              refine wpAnyD_take (i := 6) (v := Value.agg #[.int .i64 0, .int .i64 ((N : Int) + 2)]) rfl (by kernel_rfl) (by kernel_rfl) (by kernel_rfl) (by kernel_rfl) (fun _ _ _ h => h) (fun L w => by simp only [getD_set_ne false (by decide : (6 : Nat) ≠ 8)]) (by kernel_rfl) hS0 ⟨by rfl, fun L w' hL hD hS => ?_⟩ (fun hS0 => ?_)
              · refine .inl ?_
                go_simp
              simp only [List.getElem_toArray, List.getElem_cons_succ, List.getElem_cons_zero, Act.put, List.setIfInBounds_toArray, List.set_cons_zero, List.set_cons_succ]
              have hxe : XX ≠ E := rc_ne HX.out HBC.out
              obtain ⟨h1, h2, h3⟩ := HS.out.store2 HDO.out.2.2 HDO.out.1 HDO.out.2.1 HSF.out.1 HSF.out.2.1 HSF.out.2.2
              have HQ := Lib.hid h1
              have HQE := Lib.hid h2
              have HQM := Lib.hid h3
              clear h1 h2 h3
              have HRE : XR ≠ E := rc_ne HR.out HBC.out
              replace HR := Lib.hid ((bstore_rc s2 (.slice a2 s2.l.length c2) (.slice b2 s2.ms.length d2) HRE).2 HR.out)
              replace HX := Lib.hid ((bstore_rc s2 (.slice a2 s2.l.length c2) (.slice b2 s2.ms.length d2) hxe).2 HX.out)
              replace HES := Lib.hid (HES.out.kept (w' := bstore x4 E s2 (.slice a2 s2.l.length c2) (.slice b2 s2.ms.length d2)) (fun j hj _ => bstore_heap _ _ _ _ _ (by have := HEB.out; omega)))
              unfold bstore at HQ HQE HQM HR HX HES
              obtain ⟨q0, q1, q2, q3, q4, q5, q6, q7⟩ := HBC.out.cells
              have ql := HBC.out.lt
              have f0 := HBC.out.free 0
              have f1 := HBC.out.free 1
              have f2 := HBC.out.free 2
              have f3 := HBC.out.free 3
              have f4 := HBC.out.free 4
              have f5 := HBC.out.free 5
              have f6 := HBC.out.free 6
              have f7 := HBC.out.free 7
              clear HS HDO HRE HBC
              refine wpAnyD_one (i := 8) (by kernel_rfl) rfl (by kernel_rfl) (fun K hK => ?_)
              simp only [List.getElem_toArray, List.getElem_cons_succ, List.getElem_cons_zero]
              go_simp
              refine hK.out _ _ (fun h => (by cases h)) (fun hS0' => ?_)
              clear hK hS0 hS0' q0 q1 q2 q3 q4 q5 q6 q7 ql f0 f1 f2 f3 f4 f5 f6 f7
              generalize ((((((((x4.setCell ⟨E, 0, none⟩ (.int .i64 s2.seq)).setCell ⟨E, 1, none⟩ ((.slice a2 s2.l.length c2))).setCell ⟨E, 2, none⟩ ((.slice b2 s2.ms.length d2))).setCell ⟨E, 3, none⟩ (.int .i64 s2.l1)).setCell ⟨E, 4, none⟩ (.int .i64 s2.l2)).setCell ⟨E, 5, none⟩ (.int .i64 s2.l3)).setCell ⟨E, 6, none⟩ (.int .i64 s2.l4)).setCell ⟨E, 7, none⟩ (.int .i64 s2.l5)) = Y8 at *
              obtain ⟨x0, x1, g0, g1⟩ := HX.out.facts
              dsimp only at x0 x1
              have xl := HX.out.lt
              refine wpAnyD_one (i := 9) (by kernel_rfl) rfl (by kernel_rfl) (fun K hK => ?_)
              simp only [List.getElem_toArray, List.getElem_cons_succ, List.getElem_cons_zero]
              go_simp
              obtain ⟨h1, h2⟩ := HQ.out.res ⟨0, (N : Int) + 2⟩ HQE.out HQM.out HX.out HXW.out
              have HS := Lib.hid h1
              replace HES := Lib.hid (eown_res ⟨0, (N : Int) + 2⟩ HES.out HX.out)
              replace HR := Lib.hid (rc_res (X := XX) ⟨0, (N : Int) + 2⟩ HR.out HXR.out)
              replace HX := Lib.hid h2
              clear h1 h2 HQ HQE HQM
              dsimp only at HS HES HR HX
              refine hK.out _ _ (fun h => (by cases h)) (fun hS0' => ?_)
              clear hK hS0' x0 x1 g0 g1 xl hxe
              refine wpAnyD_done (by kernel_rfl) ?_ _
              generalize (Y8.setCell ⟨XX, 0, none⟩ (.int .i64 0)).setCell ⟨XX, 1, none⟩ (.int .i64 ((N : Int) + 2)) = Y9 at *
              obtain ⟨q0, q1, q2, q3, q4, q5, q6, q7⟩ := HS.out.bc.cells
              have ql := HS.out.bc.lt
              go_wp2_with fail
              clear q0 q1 q2 q3 q4 q5 q6 q7 ql
              refine (HGF.out _ _ _ HS.out).mono ?_
              rintro _ y1 ⟨rfl, hb⟩
              replace HS := Lib.hid (HS.out.below hb)
              replace HR := Lib.hid (HR.out.below hb)
              replace HX := Lib.hid (HX.out.below hb)
              replace HES := Lib.hid (HES.out.below hb)
              clear hb
              obtain ⟨r0, r1, -, -⟩ := HR.out.facts
              obtain ⟨x0, x1, -, -⟩ := HX.out.facts
              dsimp only at r0 r1 x0 x1
              have rl := HR.out.lt
              have xl := HX.out.lt
              obtain ⟨g, og, ga, gm, rfl, -, k1, kl, -⟩ := HES.out.at.get (j := 0) (x := e0) rfl
              rw [HEL.out, Nat.zero_mul, Nat.add_zero] at k1
              have hbz : Below w.heap.size w (y1.alloc (.cells #[.int .i64 ((N : Int) + 2), .bool false, .string B] 60)) := HS.out.bl.alloc HS.out.bl.size _
              have HBZ := Lib.hid hbz
              clear hbz
              go_wp2_with fail
              go_ret
              exact ⟨rfl, HBZ.out⟩
          · skip
            simp only [List.getElem_toArray, List.getElem_cons_succ, List.getElem_cons_zero]
            go_simp
            have HRL := HR.out.lt
            have HXW := Lib.hid HS.out.bl.size
            have hb : Below wr.heap.size wr (wr.alloc (.cells #[.int .i64 0, .int .i64 0] 80)).drew := ((Below.refl wr.heap.size wr).alloc (Nat.le_refl _) _).drew
            have HX : Hid (RC (wr.alloc (.cells #[.int .i64 0, .int .i64 0] 80)).drew wr.heap.size ⟨0, 0⟩) := Lib.hid (RC.new wr ⟨0, 0⟩)
            replace HS := Lib.hid (HS.out.below hb)
            replace HR := Lib.hid (HR.out.below hb)
            replace HES := Lib.hid (HES.out.below hb)
            have HXR : Hid (XR ≠ wr.heap.size) := Lib.hid (by have := HRL; omega)
            clear hb HRL hS0
            refine hK.out _ _ (fun _ => HS.out.bc) (fun hS0 => ?_)
            clear hK
            generalize (wr.alloc (.cells #[.int .i64 0, .int .i64 0] 80)).drew = X5 at *
            generalize wr.heap.size = XX at *
            refine wpAnyD_one (i := 2) (by kernel_rfl) rfl (by kernel_rfl) (fun K hK => ?_)
            simp only [List.getElem_toArray, List.getElem_cons_succ, List.getElem_cons_zero]
            go_simp
            refine (HP.out _).mono ?_
            rintro _ x3 ⟨rfl, hb⟩
            replace HS := Lib.hid (HS.out.below hb)
            replace HR := Lib.hid (HR.out.below hb)
            replace HES := Lib.hid (HES.out.below hb)
            replace HX := Lib.hid (HX.out.below hb)
            clear hb hS0
            refine hK.out _ _ (fun _ => HS.out.bc) (fun hS0 => ?_)
            clear hK
            refine wpAnyD_one (i := 3) (by kernel_rfl) rfl (by kernel_rfl) (fun K hK => ?_)
            simp only [List.getElem_toArray, List.getElem_cons_succ, List.getElem_cons_zero]
            go_simp
            have HSL := Lib.hid HS.out.bc.lt
            refine (HDF.out _ _ _ HS.out).mono ?_
            rintro _ x4 ⟨a2, c2, b2, d2, rfl, ho, hm, hb⟩
            replace HR := Lib.hid (HR.out.below hb)
            replace HES := Lib.hid (HES.out.below hb)
            replace HX := Lib.hid (HX.out.below hb)
            have HBC := Lib.hid (HS.out.bc.below hb)
            have HDO := Lib.hid (And.intro ho (And.intro hm hb))
            clear hb hS0 ho hm
            refine hK.out _ _ (fun _ => HBC.out) (fun hS0 => ?_)
            clear hK
            refine wpAnyD_take (i := 4) (v := Value.tuple #[.agg #[.int .i64 s2.seq, .slice a2 s2.l.length c2, .slice b2 s2.ms.length d2, .int .i64 s2.l1, .int .i64 s2.l2, .int .i64 s2.l3, .int .i64 s2.l4, .int .i64 s2.l5], .agg #[.int .i64 0, .int .i64 ((N : Int) + 2)]]) rfl (by kernel_rfl) (by kernel_rfl) (by kernel_rfl) (by kernel_rfl) (fun _ _ _ h => h) (fun L w => by simp only [getD_set_ne false (by decide : (4 : Nat) ≠ 8)]) (by kernel_rfl) hS0 ⟨by rfl, fun L w' hL hD hS => ?_⟩ (fun hS0 => ?_)
            · refine .inl ?_
              go_simp
            simp only [List.getElem_toArray, List.getElem_cons_succ, List.getElem_cons_zero, Act.put, List.setIfInBounds_toArray, List.set_cons_zero, List.set_cons_succ]
            refine wpAnyD_take (i := 5) (v := Value.agg #[.int .i64 s2.seq, .slice a2 s2.l.length c2, .slice b2 s2.ms.length d2, .int .i64 s2.l1, .int .i64 s2.l2, .int .i64 s2.l3, .int .i64 s2.l4, .int .i64 s2.l5]) rfl (by kernel_rfl) (by kernel_rfl) (by kernel_rfl) (by kernel_rfl) (fun _ _ _ h => h) (fun L w => by simp only [getD_set_ne false (by decide : (5 : Nat) ≠ 8)]) (by kernel_rfl) hS0 ⟨by rfl, fun L w' hL hD hS => ?_⟩ (fun hS0 => ?_)
            · refine .inl ?_
              go_simp
            simp only [List.getElem_toArray, List.getElem_cons_succ, List.getElem_cons_zero, Act.put, List.setIfInBounds_toArray, List.set_cons_zero, List.set_cons_succ]
            refine wpAnyD_take (i := 6) (v := Value.agg #[.int .i64 0, .int .i64 ((N : Int) + 2)]) rfl (by kernel_rfl) (by kernel_rfl) (by kernel_rfl) (by kernel_rfl) (fun _ _ _ h => h) (fun L w => by simp only [getD_set_ne false (by decide : (6 : Nat) ≠ 8)]) (by kernel_rfl) hS0 ⟨by rfl, fun L w' hL hD hS => ?_⟩ (fun hS0 => ?_)
            · refine .inl ?_
              go_simp
            simp only [List.getElem_toArray, List.getElem_cons_succ, List.getElem_cons_zero, Act.put, List.setIfInBounds_toArray, List.set_cons_zero, List.set_cons_succ]
            have hxe : XX ≠ E := rc_ne HX.out HBC.out
            obtain ⟨h1, h2, h3⟩ := HS.out.store2 HDO.out.2.2 HDO.out.1 HDO.out.2.1 HSF.out.1 HSF.out.2.1 HSF.out.2.2
            have HQ := Lib.hid h1
            have HQE := Lib.hid h2
            have HQM := Lib.hid h3
            clear h1 h2 h3
            have HRE : XR ≠ E := rc_ne HR.out HBC.out
            replace HR := Lib.hid ((bstore_rc s2 (.slice a2 s2.l.length c2) (.slice b2 s2.ms.length d2) HRE).2 HR.out)
            replace HX := Lib.hid ((bstore_rc s2 (.slice a2 s2.l.length c2) (.slice b2 s2.ms.length d2) hxe).2 HX.out)
            replace HES := Lib.hid (HES.out.kept (w' := bstore x4 E s2 (.slice a2 s2.l.length c2) (.slice b2 s2.ms.length d2)) (fun j hj _ => bstore_heap _ _ _ _ _ (by have := HEB.out; omega)))
            unfold bstore at HQ HQE HQM HR HX HES
            obtain ⟨q0, q1, q2, q3, q4, q5, q6, q7⟩ := HBC.out.cells
            have ql := HBC.out.lt
            have f0 := HBC.out.free 0
            have f1 := HBC.out.free 1
            have f2 := HBC.out.free 2
            have f3 := HBC.out.free 3
            have f4 := HBC.out.free 4
            have f5 := HBC.out.free 5
            have f6 := HBC.out.free 6
            have f7 := HBC.out.free 7
            clear HS HDO HRE HBC
            refine wpAnyD_one (i := 8) (by kernel_rfl) rfl (by kernel_rfl) (fun K hK => ?_)
            simp only [List.getElem_toArray, List.getElem_cons_succ, List.getElem_cons_zero]
            go_simp
            refine hK.out _ _ (fun h => (by cases h)) (fun hS0' => ?_)
            clear hK hS0 hS0' q0 q1 q2 q3 q4 q5 q6 q7 ql f0 f1 f2 f3 f4 f5 f6 f7
            generalize ((((((((x4.setCell ⟨E, 0, none⟩ (.int .i64 s2.seq)).setCell ⟨E, 1, none⟩ ((.slice a2 s2.l.length c2))).setCell ⟨E, 2, none⟩ ((.slice b2 s2.ms.length d2))).setCell ⟨E, 3, none⟩ (.int .i64 s2.l1)).setCell ⟨E, 4, none⟩ (.int .i64 s2.l2)).setCell ⟨E, 5, none⟩ (.int .i64 s2.l3)).setCell ⟨E, 6, none⟩ (.int .i64 s2.l4)).setCell ⟨E, 7, none⟩ (.int .i64 s2.l5)) = Y8 at *
            obtain ⟨x0, x1, g0, g1⟩ := HX.out.facts
            dsimp only at x0 x1
            have xl := HX.out.lt
            refine wpAnyD_one (i := 9) (by kernel_rfl) rfl (by kernel_rfl) (fun K hK => ?_)
            simp only [List.getElem_toArray, List.getElem_cons_succ, List.getElem_cons_zero]
            go_simp
            obtain ⟨h1, h2⟩ := HQ.out.res ⟨0, (N : Int) + 2⟩ HQE.out HQM.out HX.out HXW.out
            have HS := Lib.hid h1
            replace HES := Lib.hid (eown_res ⟨0, (N : Int) + 2⟩ HES.out HX.out)
            replace HR := Lib.hid (rc_res (X := XX) ⟨0, (N : Int) + 2⟩ HR.out HXR.out)
            replace HX := Lib.hid h2
            clear h1 h2 HQ HQE HQM
            dsimp only at HS HES HR HX
            refine hK.out _ _ (fun h => (by cases h)) (fun hS0' => ?_)
            clear hK hS0' x0 x1 g0 g1 xl hxe
            refine wpAnyD_done (by kernel_rfl) ?_ _
            generalize (Y8.setCell ⟨XX, 0, none⟩ (.int .i64 0)).setCell ⟨XX, 1, none⟩ (.int .i64 ((N : Int) + 2)) = Y9 at *
            obtain ⟨q0, q1, q2, q3, q4, q5, q6, q7⟩ := HS.out.bc.cells
            have ql := HS.out.bc.lt
            go_wp2_with fail
            clear q0 q1 q2 q3 q4 q5 q6 q7 ql
            refine (HGF.out _ _ _ HS.out).mono ?_
            rintro _ y1 ⟨rfl, hb⟩
            replace HS := Lib.hid (HS.out.below hb)
            replace HR := Lib.hid (HR.out.below hb)
            replace HX := Lib.hid (HX.out.below hb)
            replace HES := Lib.hid (HES.out.below hb)
            clear hb
            obtain ⟨r0, r1, -, -⟩ := HR.out.facts
            obtain ⟨x0, x1, -, -⟩ := HX.out.facts
            dsimp only at r0 r1 x0 x1
            have rl := HR.out.lt
            have xl := HX.out.lt
            obtain ⟨g, og, ga, gm, rfl, -, k1, kl, -⟩ := HES.out.at.get (j := 0) (x := e0) rfl
            rw [HEL.out, Nat.zero_mul, Nat.add_zero] at k1
            have hbz : Below w.heap.size w (y1.alloc (.cells #[.int .i64 ((N : Int) + 2), .bool false, .string B] 60)) := HS.out.bl.alloc HS.out.bl.size _
            have HBZ := Lib.hid hbz
            clear hbz
            go_wp2_with fail
            go_ret
            exact ⟨rfl, HBZ.out⟩

end Go.Proofs.YtoealjcjpjapkaaGreatDoor
