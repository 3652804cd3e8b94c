/-
  Contracts of the program, and what they rest on.
-/
import Derived.Test.YtaacdggjkfmehaaGreatDoorM22
import Derived.Test.YtaacdggjkfmehaaGreatDoorM03
import Derived.Test.YtaacdggjkfmehaaGreatDoorM02
import Derived.Deep.QuietTactic
import Derived.BigQuiet
import Derived.Test.YtaacdggjkfmehaaGreatDoorProg
import Derived.WalkKit
import Derived.WalkSpells
import Derived.WalkLawsBesides
import Derived.Lib.Hide
import Derived.Deep.RegionLaw
import Derived.Deep.RegionHeld3
import Derived.BigRegion
import Derived.Laws.Rows
import Derived.Laws.Tables
import Derived.Deep.CutRange
import Derived.Deep.CutBlock
import Derived.Test.YtaacdggjkfmehaaGreatDoorRRosJ
import Derived.Test.YtaacdggjkfmehaaGreatDoorRChJ
import Derived.Test.YtaacdggjkfmehaaGreatDoorOpA
import Derived.Test.YtaacdggjkfmehaaGreatDoorChP
import Derived.Test.YtaacdggjkfmehaaGreatDoorCaA
import Derived.Test.YtaacdggjkfmehaaGreatDoorCaB
import Derived.Test.YtaacdggjkfmehaaGreatDoorCaC
import Derived.Test.YtaacdggjkfmehaaGreatDoorHeldS
import Derived.Test.YtaacdggjkfmehaaGreatDoorLdR
import Derived.Test.YtaacdggjkfmehaaGreatDoorChO
import Derived.Test.YtaacdggjkfmehaaGreatDoorCaH
import Derived.Test.YtaacdggjkfmehaaGreatDoorCaI
import Derived.Test.YtaacdggjkfmehaaGreatDoorClO
namespace Go.Proofs.YtaacdggjkfmehaaGreatDoor
open Go.RowKit Go.Maps Go.Proofs.MapD Go.Proofs.Chest
set_option maxRecDepth 100000 in
set_option maxHeartbeats 16000000 in
theorem chiefAll_walk (e nw : Int) (v : Value) (l : List Int) (v1 : Value) (len : Nat) (D : Nat → OpD) (ob off cap : Nat) (a0 : Option Addr) (hv1 : v1 = .slice a0 len cap) (ha0 : 0 < len → a0 = some ⟨ob, off, none⟩) (w : World) (hB : BegunTrue10) (hlib : LibAt w)
    (hi : IsAt w v l) (hll : l.length ≤ 9223372036854775807) (hlen : len ≤ 9223372036854775807) (hob : 0 < len → ob < w.heap.size) (hD : ∀ i, i < len → OpAt w ob (off + i * 25) (D i)) :
    Calls Tryz.prog 3 #[.agg #[.int .i64 e, v, .int .i64 nw], v1] w fun e w' => e = .returned (.bool true) ∧ Below w.heap.size w w' := by
  subst hv1
  obtain ⟨ad, cap', rfl, _⟩ := hi.shape
  have hbw := ro_below w e (.slice ad l.length cap') nw 24
  have HB := Lib.hid (hB _ (hlib.below hbw))
  have HL := Lib.hid hlib
  have HI := Lib.hid (hi.below hbw)
  have HS0 := Lib.hid ((Sp.start w).rxNew e nw (.slice ad l.length cap'))
  have HD := Lib.hid hD
  have HA0 := Lib.hid ha0
  have HOB := Lib.hid hob
  clear hB hlib hD ha0 hob hi hbw
  go_enter Tryz.func3, Tryz.ntmps3
  go_wp2_with fail
  generalize w.alloc _ = W0 at *
  refine HB.out.mono ?_
  rintro _ w1 ⟨rfl, hb1⟩
  have H1 := Lib.hid (HS0.out.below hb1)
  have HI1 := Lib.hid (HI.out.below hb1)
  clear hb1 HB HS0 HI
  obtain ⟨⟨p0, p1, p2⟩, f0, f1, f2⟩ := H1.out.rx.rc
  go_wp2_with fail
  refine (lroster_p e nw _ l w1 HI1.out hll).mono ?_
  rintro _ w2 ⟨a2, c2, rfl, ho2, hb2⟩
  obtain ⟨l7, hl7⟩ : ∃ l7, l.take 7 = l7 := ⟨_, rfl⟩
  have hl7l : l7.length ≤ 7 := by rw [← hl7]; exact List.length_take_le _ _
  rw [hl7] at ho2 ⊢
  have H2 := Lib.hid ((H1.out.below hb2))
  have HO2 := Lib.hid ho2
  have HIX := Lib.hid (H1.out.ixNew hb2 ho2.at (fun g hg => (ho2.lt hg).1))
  clear hl7 ho2 hb2 H1 HI1 p0 p1 p2 f0 f1 f2
  obtain ⟨⟨p0, p1, p2⟩, f0, f1, f2⟩ := H2.out.rx.rc
  go_wp2_with fail
  have H3 := Lib.hid (HIX.out.swap.rxPut e nw (.slice a2 l7.length c2))
  clear H2 HO2 HIX p0 p1 p2 f0 f1 f2
  generalize World.setCell (World.setCell (World.setCell w2 _ _) _ _) _ _ = W3 at *
  refine (s_new 1048576 H3.out).mono ?_
  rintro _ w4 ⟨c, rfl, h4⟩
  rw [r_new] at h4
  have H4 := Lib.hid (h4.perm (.cons _ (.swap _ _ _)))
  clear h4 H3
  obtain ⟨⟨p0, p1, p2⟩, _⟩ := (H4.out.rot.rot.perm (.swap _ _ _)).rx.rc
  go_wp2_with fail
  have hl1 : l7.length ≤ 1000 := by omega
  by_cases hm : mayR ⟨e, l7, nw⟩ = true ∧ nw = 0
  case neg =>
    refine (open_form H4.out (by decide) hl1 hm HL.out 3).mono ?_
    rintro _ w5 ⟨rfl, h5⟩
    have H5 := Lib.hid h5
    have HNO := Lib.hid (newq_no h5.ix hl1 hm 3)
    clear h5 H4 p0 p1 p2 hm
    obtain ⟨⟨p0, p1, p2⟩, _⟩ := H5.out.swap.rx.rc
    go_wp2_with fail
    refine HNO.out.mono ?_
    rintro _ w6 ⟨rfl, hb6⟩
    have H6 := Lib.hid (H5.out.below hb6)
    clear hb6 HNO H5 p0 p1 p2
    go_wp2_with fail
    go_ret
    exact ⟨rfl, H6.out.bl⟩
  obtain ⟨hm, rfl⟩ := hm
  refine (open_new H4.out (by decide) hm HL.out 3).mono ?_
  rintro _ w5 ⟨x, j, rfl, h5⟩
  have H5 := Lib.hid h5
  have HNQ := Lib.hid (h5.newq hm 3)
  have HBX := Lib.hid (h5.mem (i := rx w.heap.size e (.slice a2 l7.length c2) 0) (.tail _ (.head _)))
  clear h5 H4 p0 p1 p2 hm H5
  obtain ⟨F5, h6, _⟩ := HBX.out
  obtain ⟨⟨p0, p1, p2⟩, _⟩ := RH.rc h6
  clear h6 HBX
  go_wp2_with fail
  refine HNQ.out.mono ?_
  rintro _ w6 ⟨y, rfl, h6⟩
  have H6 : Hid (ClH w w6 x j c y (.slice a2 l7.length c2) (.slice none 0 0) (beginS ⟨e, l7, 0⟩ 3 3) (qbegin ⟨e, l7, 0⟩ 3)) := Lib.hid ⟨h6.dropTail, Sim.begin _ _, QHb.all (by omega)⟩
  clear h6 HNQ p0 p1 p2
  go_wp2_with fail
  go_loopw [6, 7, 8, 9, 10, 12, 13, 14, 15, 16] (fun v6 v7 v8 _ v10 v12 _ _ _ _ wr => ∃ (i now x j c y : Nat) (u u' : Value) (s : Cs) (t : Qs), v6 = .pointer (some ⟨c, 0, none⟩) ∧ v7 = .int .i64 (now : Int) ∧ v8 = .pointer (some ⟨x, 0, none⟩) ∧ v10 = .pointer (some ⟨y, 0, none⟩) ∧ v12 = .int .i64 (i : Int) ∧ i ≤ len ∧ i ≤ 60 ∧ now ≤ 3 + 3 * i ∧ Hid (ClH w wr x j c y u u' s t)) (fun _ _ _ _ _ v12 _ _ _ _ _ => len - (intOf v12).toNat)
  case atStart => exact ⟨0, 3, x, j, c, y, _, _, _, _, rfl, rfl, rfl, rfl, rfl, Nat.zero_le _, Nat.zero_le _, by omega, H6⟩
  case round =>
    obtain ⟨i, now, x, j, c, y, u, u', s, t, rfl, rfl, rfl, rfl, rfl, hi, hi60, hnow, HH⟩ := hrel
    clear H6
    by_cases hil : i < len
    case neg =>
      go_wp2_with fail
      go_ret
      exact ⟨rfl, HH.out.1.bl⟩
    by_cases hi6 : i < 60
    case neg =>
      go_wp2_with fail
      go_ret
      exact ⟨rfl, HH.out.1.bl⟩
    obtain rfl := HA0.out (by omega)
    have hoblt := HOB.out (by omega)
    have hop := (HD.out i hil).below HH.out.1.bl hoblt
    generalize D i = d at *
    have HH1 := Lib.hid (HH.out.1.below ((Below.refl _ wr).alloc (Nat.le_refl _) (.cells (opcells d) 48)))
    have HSM := Lib.hid HH.out.2
    obtain ⟨x0, x1, x2, x3⟩ := op_cells (heap_alloc_new wr (.cells (opcells d) 48))
    have HOPB := Lib.hid (heap_alloc_new wr (.cells (opcells d) 48))
    obtain ⟨k5, hk5, hk5l, hk5a, hk5b⟩ := clmod_five d.f
    have hzb := heap_alloc_new wr (.cells opz 48)
    have hone := op_one d
    clear hoblt HH
    go_wp2_with (first | (refine wpList_load_at (o := ⟨some 61, _, _, _, _, _⟩) rfl 48 (.tmp 60) rfl ob (off + i * 25) rfl (opcells d) _ hop Tryz.underlying48 rfl (by kernel_rfl) ?_) | (refine wpList_store_row (o := ⟨none, _, _, _, _, _⟩) rfl 48 (.tmp 13) (.tmp 61) rfl wr.heap.size (opcells d) rfl rfl 48 opz hzb (by kernel_rfl) rfl hone ?_; rw [setRow_alloc]))
    clear hop hzb hone
    generalize wr.alloc _ = W1 at *
    generalize wr.heap.size = BO at *
    obtain ⟨F1, hq1, _⟩ := HH1.out.mem (i := qx y u u' t) (.head _)
    obtain ⟨c0, _⟩ := hq1.cells
    have hBO := World.block_lt_of_cell? W1 _ x2
    have hyL := hq1.lt
    have HS17 : Hid (∀ o, (W1.alloc o).drew.cell? ⟨BO, 2, none⟩ = some (.int .i64 d.f) ∧ (W1.alloc o).drew.cell? ⟨y, 0, none⟩ = some (.int .i64 t.r.ep)) := Lib.hid (fun o => by
      have hb := (Below.refl W1.heap.size W1).alloc (Nat.le_refl _) o
      exact ⟨(hb.cell (p := ⟨BO, 2, none⟩) hBO).trans x2, (hb.cell (p := ⟨y, 0, none⟩) hyL).trans c0⟩)
    have hw1 : IntKind.i64.wrap (d.f.tmod 5 + 5) = d.f.tmod 5 + 5 := IntWalk.i64_in _ (by omega)
    have hw2 : IntKind.i64.wrap (1 + (k5 : Int)) = 1 + (k5 : Int) := IntWalk.i64_in _ (by omega)
    clear hq1
    have hS0 : W1.drew.cell? ⟨BO, 2, none⟩ = some (.int .i64 d.f) ∧ W1.drew.cell? ⟨y, 0, none⟩ = some (.int .i64 t.r.ep) := ⟨x2, c0⟩
    refine wp_region_seq (S := fun Y => Y.cell? ⟨BO, 2, none⟩ = some (.int .i64 d.f) ∧ Y.cell? ⟨y, 0, none⟩ = some (.int .i64 t.r.ep)) (r := clO17) (by kernel_rfl) (seq_of (f := Tryz.f3) (n := 17) (by kernel_rfl) cl_seq17) (fun L hc => ?_)
    refine hk 0 (.pointer (some ⟨BO, 2, none⟩)) hc rfl ?_ hS0 fun L hc => ?_
    · intro w' hS; go_simp
    refine hk 1 (.int .i64 d.f) hc rfl ?_ hS0 fun L hc => ?_
    · intro w' hS; obtain ⟨s0, s1⟩ := hS; go_simp
    refine hk 2 (.int .i64 (d.f.tmod 5)) hc rfl ?_ hS0 fun L hc => ?_
    · intro w' hS; go_simp
    refine hk 3 (.int .i64 (d.f.tmod 5 + 5)) hc rfl ?_ hS0 fun L hc => ?_
    · intro w' hS; go_simp
    refine hk 4 (.int .i64 (k5 : Int)) hc rfl ?_ hS0 fun L hc => ?_
    · intro w' hS; go_simp
    refine hk 5 (.int .i64 (1 + (k5 : Int))) hc rfl ?_ hS0 fun L hc => ?_
    · intro w' hS; go_simp
    refine hk 6 (.pointer (some ⟨y, 0, none⟩)) hc rfl ?_ hS0 fun L hc => ?_
    · intro w' hS; go_simp
    refine hk 7 (.pointer (some ⟨y, 0, none⟩)) hc rfl ?_ hS0 fun L hc => ?_
    · intro w' hS; go_simp
    refine hk 8 (.pointer (some ⟨y, 0, none⟩)) hc rfl ?_ hS0 fun L hc => ?_
    · intro w' hS; go_simp
    refine hk 9 (.pointer (some ⟨y, 0, none⟩)) hc rfl ?_ hS0 fun L hc => ?_
    · intro w' hS; go_simp
    refine hk 10 (.int .i64 t.r.ep) hc rfl ?_ hS0 fun L hc => ?_
    · intro w' hS; obtain ⟨s0, s1⟩ := hS; go_simp
    refine hk 11 (.agg #[.int .i64 0, .int .i64 (1 + (k5 : Int)), .int .i64 0, .int .i64 t.r.ep, .int .i64 0, .int .i64 0, .int .i64 0, .int .i64 0, .int .i64 0, .int .i64 0, .slice none 0 0, .int .i64 0, .slice none 0 0, .int .i64 0, .slice none 0 0, .slice none 0 0, .int .i64 0, .int .i64 0, .int .i64 0, .int .i64 0, .int .i64 0]) hc rfl ?_ hS0 fun L hc => ?_
    · intro w' hS; go_simp
    simp only [List.getElem_toArray, List.getElem_cons_succ, List.getElem_cons_zero, Act.put, List.setIfInBounds_toArray, List.set_cons_zero, List.set_cons_succ]
    refine held_one (i := 12) hc rfl (fun K hK => ?_)
    rw [if_pos (by kernel_rfl)]
    go_simp
    refine hK.out _ _ (HS17.out _) (fun L hS0' hc => ?_)
    clear hK hS0
    have hS0 := hS0'
    clear hS0'
    refine held_one (i := 13) hc rfl (fun K hK => ?_)
    rw [if_pos (by kernel_rfl)]
    refine wp_store_row 46 (.tmp 14) (.tmp 73) rfl W1.heap.size #[.int .i64 0, .int .i64 (1 + (k5 : Int)), .int .i64 0, .int .i64 t.r.ep, .int .i64 0, .int .i64 0, .int .i64 0, .int .i64 0, .int .i64 0, .int .i64 0, .slice none 0 0, .int .i64 0, .slice none 0 0, .int .i64 0, .slice none 0 0, .slice none 0 0, .int .i64 0, .int .i64 0, .int .i64 0, .int .i64 0, .int .i64 0] rfl rfl 46 #[.int .i64 0, .int .i64 0, .int .i64 0, .int .i64 0, .int .i64 0, .int .i64 0, .int .i64 0, .int .i64 0, .int .i64 0, .int .i64 0, .slice none 0 0, .int .i64 0, .slice none 0 0, .int .i64 0, .slice none 0 0, .slice none 0 0, .int .i64 0, .int .i64 0, .int .i64 0, .int .i64 0, .int .i64 0] (heap_alloc_new W1 _) (by kernel_rfl) rfl (wagz_one (1 + (k5 : Int)) t.r.ep) ?_
    change K _ (World.drew (World.setRow (World.alloc W1 _) _ _))
    rw [setRow_alloc]
    refine hK.out _ _ (HS17.out _) (fun L hS0' hc => ?_)
    clear hK hS0 hS0'
    refine held_done hc ?_ _
    clear hc hw1 hw2 HS17 hBO hyL c0
    have HV := Lib.hid (show CK w (W1.alloc (.cells #[.int .i64 0, .int .i64 (1 + (k5 : Int)), .int .i64 0, .int .i64 t.r.ep, .int .i64 0, .int .i64 0, .int .i64 0, .int .i64 0, .int .i64 0, .int .i64 0, .slice none 0 0, .int .i64 0, .slice none 0 0, .int .i64 0, .slice none 0 0, .slice none 0 0, .int .i64 0, .int .i64 0, .int .i64 0, .int .i64 0, .int .i64 0] 46)).drew x j c 1048576 s [wx W1.heap.size (wagz (1 + (k5 : Int)) t.r.ep), qx y u u' t] from HH1.out.wxNew _)
    have HOP2 := Lib.hid (show (W1.alloc (.cells #[.int .i64 0, .int .i64 (1 + (k5 : Int)), .int .i64 0, .int .i64 t.r.ep, .int .i64 0, .int .i64 0, .int .i64 0, .int .i64 0, .int .i64 0, .int .i64 0, .slice none 0 0, .int .i64 0, .slice none 0 0, .int .i64 0, .slice none 0 0, .slice none 0 0, .int .i64 0, .int .i64 0, .int .i64 0, .int .i64 0, .int .i64 0] 46)).drew.heap[BO]? = _ from ((((Below.refl W1.heap.size W1).alloc (Nat.le_refl _) (.cells #[.int .i64 0, .int .i64 (1 + (k5 : Int)), .int .i64 0, .int .i64 t.r.ep, .int .i64 0, .int .i64 0, .int .i64 0, .int .i64 0, .int .i64 0, .int .i64 0, .slice none 0 0, .int .i64 0, .slice none 0 0, .int .i64 0, .slice none 0 0, .slice none 0 0, .int .i64 0, .int .i64 0, .int .i64 0, .int .i64 0, .int .i64 0] 46)).drew).block BO (World.block_lt_of_cell? W1 _ x0)).trans HOPB.out)
    have HBG := Lib.hid (show BO < W1.heap.size from World.block_lt_of_cell? W1 _ x0)
    clear HH1 HOPB x0 x1 x2 x3
    generalize World.drew (World.alloc W1 _) = W2 at *
    generalize W1.heap.size = BV at *
    obtain ⟨x0, x1, x2, x3⟩ := op_cells HOP2.out
    obtain ⟨_, _, _, _, hmy, _⟩ := HV.out.chief
    have hepb := may_ep hmy
    rw [← HSM.out.1.r] at hepb
    clear hmy
    go_upto_if 75 with (fail)
    go_cut [] from 48 to 190 (fun wz => ∃ E : Int, Hid (CK w wz x j c 1048576 s [wx BV (wagz (1 + (k5 : Int)) E), qx y u u' t]) ∧ Hid (wz.heap[BO]? = some (.cells (opcells d) 48 (0, 0))))
    case first =>
      obtain ⟨F2, hv2, _⟩ := HV.out.mem (i := wx BV (wagz (1 + (k5 : Int)) t.r.ep)) (.head _)
      have v3 : W2.cell? ⟨BV, 3, none⟩ = some (.int .i64 t.r.ep) := (cell_block hv2).trans rfl
      have g3 : W2.frozen? ⟨BV, 3, none⟩ = false := frozen_block hv2
      clear hv2
      cases hold : d.old with
      | true =>
        rw [hold] at x3
        have HV3 := Lib.hid (show CK w (W2.setCell ⟨BV, 3, none⟩ (.int .i64 (t.r.ep - 1))) x j c 1048576 s [wx BV (wagz (1 + (k5 : Int)) (t.r.ep - 1)), qx y u u' t] from HV.out.up (fun M hM => hM.wxSet 3 _))
        have HOP3 := Lib.hid ((Below.heap_setCell W2 ⟨BV, 3, none⟩ (.int .i64 (t.r.ep - 1)) BO (show BO ≠ BV by have := HBG.out; omega)).trans HOP2.out)
        clear HV HOP2 hold x0 x1 x2
        go_wp2_with fail
        go_meet
        case rel => exact ⟨t.r.ep - 1, HV3, HOP3⟩
      | false =>
        rw [hold] at x3
        clear hold x0 x1 x2 v3 g3
        go_wp2_with fail
        go_meet
        case rel => exact ⟨t.r.ep, HV, HOP2⟩
    case rest =>
      obtain ⟨E, HV2, HOP3⟩ := hcut
      clear HV HOP2 x0 x1 x2 x3 hepb
      obtain ⟨x0, x1, x2, x3⟩ := op_cells HOP3.out
      go_upto_block 2 with (fail)
      go_cut [6, 7, 8, 9, 10, 15, 16] from 48 to 190 (fun s6 s7 s8 _ s10 _ _ wz => ∃ (now2 x2 j2 c2 y2 : Nat) (u1 u2 : Value) (s2 : Cs) (t2 : Qs), s6 = .pointer (some ⟨c2, 0, none⟩) ∧ s7 = .int .i64 (now2 : Int) ∧ s8 = .pointer (some ⟨x2, 0, none⟩) ∧ s10 = .pointer (some ⟨y2, 0, none⟩) ∧ now2 ≤ 3 + 3 * (i + 1) ∧ Hid (ClH w wz x2 j2 c2 y2 u1 u2 s2 t2))
      case first =>
        obtain ⟨_, _, _, _, hmy, hly⟩ := HV2.out.chief
        have HMY := Lib.hid (show mayR s.r = true ∧ s.r.l.length ≤ 900 from ⟨hmy, by omega⟩)
        obtain ⟨F2, hv2, _⟩ := HV2.out.mem (i := wx BV (wagz (1 + (k5 : Int)) E)) (.head _)
        have v0 : wc.cell? ⟨BV, 0, none⟩ = some (.int .i64 0) := (cell_block hv2).trans rfl
        have g0 : wc.frozen? ⟨BV, 0, none⟩ = false := frozen_block hv2
        have hne : ¬ BO = BV := by have := HBG.out; omega
        have hne' : ¬ BV = BO := fun e => hne e.symm
        clear hmy hly hv2 hk5
        by_cases hk0 : d.k = 0
        · have b0 : (d.k == 0) = true := by rw [beq_iff_eq]; exact hk0
          have b1 : (d.k == 1) = false := by rw [beq_eq_false_iff_ne]; omega
          have b2 : (d.k == 2) = false := by rw [beq_eq_false_iff_ne]; omega
          clear hk0
          have HV3 := Lib.hid (show CK w (wc.setCell ⟨BV, 0, none⟩ (.int .i64 1)) x j c 1048576 s [wx BV (wagv 1 (1 + (k5 : Int)) 0 E Wq.zero), qx y u u' t] from HV2.out.up (fun M hM => hM.wxSet 0 _))
          clear HV2 HOP3 x1 x2 x3
          go_wp2_with fail
          clear x0 v0 g0
          generalize World.setCell wc _ _ = W5 at *
          have hS0 : W5.drew.heap[BV]? = some (.cells (wagv 1 (1 + (k5 : Int)) 0 E Wq.zero) 46 (0, 0)) := by
            obtain ⟨F3, h3, _⟩ := HV3.out.mem (i := wx BV (wagv 1 (1 + (k5 : Int)) 0 E Wq.zero)) (.head _)
            exact h3
          have HV4 := Lib.hid (HV3.out.below (Below.refl _ W5).drew)
          clear HV3
          refine wp_region_seq (S := fun Y => Y.heap[BV]? = some (.cells (wagv 1 (1 + (k5 : Int)) 0 E Wq.zero) 46 (0, 0))) (r := clO36) (by kernel_rfl) (seq_of (f := Tryz.f3) (n := 36) (by kernel_rfl) cl_seq36) (fun L hc => ?_)
          refine hk 0 (.pointer (some ⟨x, 0, none⟩)) hc rfl ?_ hS0 fun L hc => ?_
          · intro w' hS; go_simp
          refine hk 1 (wagg 1 (1 + (k5 : Int)) 0 E Wq.zero) hc rfl (fun w' hS => by exact exec_load_at 46 (.tmp 14) rfl BV 0 rfl (wagv 1 (1 + (k5 : Int)) 0 E Wq.zero) _ (row_cells hS) Tryz.underlying46 rfl (by kernel_rfl)) hS0 fun L hc => ?_
          refine hk 2 (.int .i64 (now : Int)) hc rfl ?_ hS0 fun L hc => ?_
          · intro w' hS; go_simp
          refine hk 4 (.pointer (some ⟨y, 0, none⟩)) hc rfl ?_ hS0 fun L hc => ?_
          · intro w' hS; go_simp
          refine hk 5 (wagg 1 (1 + (k5 : Int)) 0 E Wq.zero) hc rfl (fun w' hS => by exact exec_load_at 46 (.tmp 14) rfl BV 0 rfl (wagv 1 (1 + (k5 : Int)) 0 E Wq.zero) _ (row_cells hS) Tryz.underlying46 rfl (by kernel_rfl)) hS0 fun L hc => ?_
          refine hk 6 (.int .i64 (now : Int)) hc rfl ?_ hS0 fun L hc => ?_
          · intro w' hS; go_simp
          simp only [List.getElem_toArray, List.getElem_cons_succ, List.getElem_cons_zero, Act.put, List.setIfInBounds_toArray, List.set_cons_zero, List.set_cons_succ]
          refine held_one (i := 3) hc rfl (fun K hK => ?_)
          rw [if_pos (by kernel_rfl)]
          go_simp
          refine (step_p HV4.out (by decide) HL.out (1) ((1 + (k5 : Int))) (0) (E) Wq.zero (now : Int) (by omega) (by omega)).mono ?_
          rintro _ w5 ⟨u5, rfl, h5⟩
          obtain ⟨M, h6, hM⟩ := h5.keep
          have HM := Lib.hid hM
          have H6 := Lib.hid h6
          obtain ⟨F3, h3, _⟩ := h6.mem (i := wx BV (wagv 1 (1 + (k5 : Int)) 0 E Wq.zero)) (by simp)
          refine hK.out _ _ h3 (fun L hS0' hc => ?_)
          clear hK hS0 h5 h6 hM h3 HV4
          have hS0 := hS0'
          clear hS0'
          refine held_one (i := 7) hc rfl (fun K hK => ?_)
          rw [if_pos (by kernel_rfl)]
          go_simp
          refine (H6.out.both ⟨s, HSM.out.1, HMY.out.1, HMY.out.2⟩ (1) ((1 + (k5 : Int))) (0) (E) Wq.zero (now : Int) (by omega) (by omega)).mono ?_
          rintro _ w7 ⟨z7, rfl, hz7, h7⟩
          obtain ⟨F3, h3, _⟩ := h7.mem (i := wx BV (wagv 1 (1 + (k5 : Int)) 0 E Wq.zero)) (by simp)
          have hs7 := HSM.out.1.step (1) ((1 + (k5 : Int))) (0) (E) (now : Int)
          have hh7 := QHb.step HSM.out.2 (now := (now : Int)) (by omega) (1) ((1 + (k5 : Int))) (0) (E)
          rw [hs7.2, HSM.out.1.r] at hz7
          have HQ7 := Lib.hid (eqls_any (HM.out _ _ _ h7) hz7 (by have := HMY.out.2; omega))
          have HE7 := Lib.hid (And.intro h7 (And.intro hs7.1 hh7))
          refine hK.out _ _ h3 (fun L hS0' hc => ?_)
          clear hK hS0 hz7 h7 hs7 hh7 h3 H6 HM
          have hS0 := hS0'
          clear hS0'
          refine held_one (i := 8) hc rfl (fun K hK => ?_)
          rw [if_pos (by kernel_rfl)]
          go_simp
          refine HQ7.out.mono ?_
          rintro _ w8 ⟨rfl, hb8⟩
          have h8 := HE7.out.1.below hb8
          obtain ⟨F3, h3, _⟩ := h8.mem (i := wx BV (wagv 1 (1 + (k5 : Int)) 0 E Wq.zero)) (by simp)
          have HE8 := Lib.hid (show ClH w w8 x j c y u u' (stepS s (1) ((1 + (k5 : Int))) (0) (E) (now : Int)).1 (qstep t (1) ((1 + (k5 : Int))) (0) (E) (now : Int)).1 from ⟨h8.lastOne, HE7.out.2⟩)
          refine hK.out _ _ h3 (fun L hS0' hc => ?_)
          clear hK hS0 h8 h3 hb8 HQ7 HE7
          have hS0 := hS0'
          clear hS0'
          refine hk 9 (.bool false) hc rfl ?_ hS0 fun L hc => ?_
          · intro w' hS; go_simp
          simp only [List.getElem_toArray, List.getElem_cons_succ, List.getElem_cons_zero, Act.put, List.setIfInBounds_toArray, List.set_cons_zero, List.set_cons_succ]
          refine held_done hc ?_ _
          clear hS0 hc
          go_wp2_with fail
          go_meet
          case rel => exact ⟨now, x, j, c, y, u, u', _, _, rfl, rfl, rfl, rfl, by omega, HE8⟩
        by_cases hk1 : d.k = 1
        · have b0 : (d.k == 0) = false := by rw [beq_eq_false_iff_ne]; omega
          have b1 : (d.k == 1) = true := by rw [beq_iff_eq]; exact hk1
          clear hk1
          have HV3 := Lib.hid (show CK w ((wc.setCell ⟨BV, 0, none⟩ (.int .i64 1)).setCell ⟨BV, 0, none⟩ (.int .i64 11)) x j c 1048576 s [wx BV (wagv 11 (1 + (k5 : Int)) 0 E Wq.zero), qx y u u' t] from (HV2.out.up (fun M hM => hM.wxSet 0 (.int .i64 1))).up (fun M hM => hM.wxSet 0 _))
          clear HV2 HOP3 x1 x2 x3
          go_wp2_with fail
          clear x0 v0 g0
          generalize World.setCell (World.setCell wc _ _) _ _ = W5 at *
          have hS0 : W5.drew.heap[BV]? = some (.cells (wagv 11 (1 + (k5 : Int)) 0 E Wq.zero) 46 (0, 0)) := by
            obtain ⟨F3, h3, _⟩ := HV3.out.mem (i := wx BV (wagv 11 (1 + (k5 : Int)) 0 E Wq.zero)) (.head _)
            exact h3
          have HV4 := Lib.hid (HV3.out.below (Below.refl _ W5).drew)
          clear HV3
          refine wp_region_seq (S := fun Y => Y.heap[BV]? = some (.cells (wagv 11 (1 + (k5 : Int)) 0 E Wq.zero) 46 (0, 0))) (r := clO36) (by kernel_rfl) (seq_of (f := Tryz.f3) (n := 36) (by kernel_rfl) cl_seq36) (fun L hc => ?_)
          refine hk 0 (.pointer (some ⟨x, 0, none⟩)) hc rfl ?_ hS0 fun L hc => ?_
          · intro w' hS; go_simp
          refine hk 1 (wagg 11 (1 + (k5 : Int)) 0 E Wq.zero) hc rfl (fun w' hS => by exact exec_load_at 46 (.tmp 14) rfl BV 0 rfl (wagv 11 (1 + (k5 : Int)) 0 E Wq.zero) _ (row_cells hS) Tryz.underlying46 rfl (by kernel_rfl)) hS0 fun L hc => ?_
          refine hk 2 (.int .i64 (now : Int)) hc rfl ?_ hS0 fun L hc => ?_
          · intro w' hS; go_simp
          refine hk 4 (.pointer (some ⟨y, 0, none⟩)) hc rfl ?_ hS0 fun L hc => ?_
          · intro w' hS; go_simp
          refine hk 5 (wagg 11 (1 + (k5 : Int)) 0 E Wq.zero) hc rfl (fun w' hS => by exact exec_load_at 46 (.tmp 14) rfl BV 0 rfl (wagv 11 (1 + (k5 : Int)) 0 E Wq.zero) _ (row_cells hS) Tryz.underlying46 rfl (by kernel_rfl)) hS0 fun L hc => ?_
          refine hk 6 (.int .i64 (now : Int)) hc rfl ?_ hS0 fun L hc => ?_
          · intro w' hS; go_simp
          simp only [List.getElem_toArray, List.getElem_cons_succ, List.getElem_cons_zero, Act.put, List.setIfInBounds_toArray, List.set_cons_zero, List.set_cons_succ]
          refine held_one (i := 3) hc rfl (fun K hK => ?_)
          rw [if_pos (by kernel_rfl)]
          go_simp
          refine (step_p HV4.out (by decide) HL.out (11) ((1 + (k5 : Int))) (0) (E) Wq.zero (now : Int) (by omega) (by omega)).mono ?_
          rintro _ w5 ⟨u5, rfl, h5⟩
          obtain ⟨M, h6, hM⟩ := h5.keep
          have HM := Lib.hid hM
          have H6 := Lib.hid h6
          obtain ⟨F3, h3, _⟩ := h6.mem (i := wx BV (wagv 11 (1 + (k5 : Int)) 0 E Wq.zero)) (by simp)
          refine hK.out _ _ h3 (fun L hS0' hc => ?_)
          clear hK hS0 h5 h6 hM h3 HV4
          have hS0 := hS0'
          clear hS0'
          refine held_one (i := 7) hc rfl (fun K hK => ?_)
          rw [if_pos (by kernel_rfl)]
          go_simp
          refine (H6.out.both ⟨s, HSM.out.1, HMY.out.1, HMY.out.2⟩ (11) ((1 + (k5 : Int))) (0) (E) Wq.zero (now : Int) (by omega) (by omega)).mono ?_
          rintro _ w7 ⟨z7, rfl, hz7, h7⟩
          obtain ⟨F3, h3, _⟩ := h7.mem (i := wx BV (wagv 11 (1 + (k5 : Int)) 0 E Wq.zero)) (by simp)
          have hs7 := HSM.out.1.step (11) ((1 + (k5 : Int))) (0) (E) (now : Int)
          have hh7 := QHb.step HSM.out.2 (now := (now : Int)) (by omega) (11) ((1 + (k5 : Int))) (0) (E)
          rw [hs7.2, HSM.out.1.r] at hz7
          have HQ7 := Lib.hid (eqls_any (HM.out _ _ _ h7) hz7 (by have := HMY.out.2; omega))
          have HE7 := Lib.hid (And.intro h7 (And.intro hs7.1 hh7))
          refine hK.out _ _ h3 (fun L hS0' hc => ?_)
          clear hK hS0 hz7 h7 hs7 hh7 h3 H6 HM
          have hS0 := hS0'
          clear hS0'
          refine held_one (i := 8) hc rfl (fun K hK => ?_)
          rw [if_pos (by kernel_rfl)]
          go_simp
          refine HQ7.out.mono ?_
          rintro _ w8 ⟨rfl, hb8⟩
          have h8 := HE7.out.1.below hb8
          obtain ⟨F3, h3, _⟩ := h8.mem (i := wx BV (wagv 11 (1 + (k5 : Int)) 0 E Wq.zero)) (by simp)
          have HE8 := Lib.hid (show ClH w w8 x j c y u u' (stepS s (11) ((1 + (k5 : Int))) (0) (E) (now : Int)).1 (qstep t (11) ((1 + (k5 : Int))) (0) (E) (now : Int)).1 from ⟨h8.lastOne, HE7.out.2⟩)
          refine hK.out _ _ h3 (fun L hS0' hc => ?_)
          clear hK hS0 h8 h3 hb8 HQ7 HE7
          have hS0 := hS0'
          clear hS0'
          refine hk 9 (.bool false) hc rfl ?_ hS0 fun L hc => ?_
          · intro w' hS; go_simp
          simp only [List.getElem_toArray, List.getElem_cons_succ, List.getElem_cons_zero, Act.put, List.setIfInBounds_toArray, List.set_cons_zero, List.set_cons_succ]
          refine held_done hc ?_ _
          clear hS0 hc
          go_wp2_with fail
          go_meet
          case rel => exact ⟨now, x, j, c, y, u, u', _, _, rfl, rfl, rfl, rfl, by omega, HE8⟩
        by_cases hk2 : d.k = 2
        · have b0 : (d.k == 0) = false := by rw [beq_eq_false_iff_ne]; omega
          have b1 : (d.k == 1) = false := by rw [beq_eq_false_iff_ne]; omega
          have b2 : (d.k == 2) = true := by rw [beq_iff_eq]; exact hk2
          clear hk2
          have hv1 := HV2.out.up (fun M hM => hM.wxSet 0 (.int .i64 1))
          obtain ⟨F4, hrow4, _⟩ := hv1.mem (i := wx BV (wagv 1 (1 + (k5 : Int)) 0 E Wq.zero)) (.head _)
          have hopw := op_word ((Below.heap_setCell wc ⟨BV, 0, none⟩ (.int .i64 1) BO hne).trans HOP3.out)
          have HV3 := Lib.hid (show CK w ((wc.setCell ⟨BV, 0, none⟩ (.int .i64 1)).setRow BV (wagv d.wk d.wn d.wt d.we d.q)) x j c 1048576 s [wx BV (wagv d.wk d.wn d.wt d.we d.q), qx y u u' t] from hv1.up (fun M hM => hM.wxRow _))
          have hone := wagv_one d.wk d.wn d.wt d.we d.q
          clear HV2 HOP3 x1 x2 x3 hv1
          go_wp2_with (first | (refine wpList_load_at (o := ⟨some 128, _, _, _, _, _⟩) rfl 46 (.tmp 127) rfl BO 4 rfl (wagv d.wk d.wn d.wt d.we d.q) _ hopw Tryz.underlying46 rfl (by kernel_rfl) ?_) | (refine wpList_store_row (o := ⟨none, _, _, _, _, _⟩) rfl 46 (.tmp 14) (.tmp 128) rfl BV (wagv d.wk d.wn d.wt d.we d.q) rfl rfl 46 (wagv 1 (1 + (k5 : Int)) 0 E Wq.zero) hrow4 (by kernel_rfl) rfl hone ?_))
          clear x0 v0 g0 hopw hrow4 hone
          generalize World.setRow (World.setCell wc _ _) _ _ = W5 at *
          have hS0 : W5.drew.heap[BV]? = some (.cells (wagv d.wk d.wn d.wt d.we d.q) 46 (0, 0)) := by
            obtain ⟨F3, h3, _⟩ := HV3.out.mem (i := wx BV (wagv d.wk d.wn d.wt d.we d.q)) (.head _)
            exact h3
          have HV4 := Lib.hid (HV3.out.below (Below.refl _ W5).drew)
          clear HV3
          refine wp_region_seq (S := fun Y => Y.heap[BV]? = some (.cells (wagv d.wk d.wn d.wt d.we d.q) 46 (0, 0))) (r := clO36) (by kernel_rfl) (seq_of (f := Tryz.f3) (n := 36) (by kernel_rfl) cl_seq36) (fun L hc => ?_)
          refine hk 0 (.pointer (some ⟨x, 0, none⟩)) hc rfl ?_ hS0 fun L hc => ?_
          · intro w' hS; go_simp
          refine hk 1 (wagg d.wk d.wn d.wt d.we d.q) hc rfl (fun w' hS => by exact exec_load_at 46 (.tmp 14) rfl BV 0 rfl (wagv d.wk d.wn d.wt d.we d.q) _ (row_cells hS) Tryz.underlying46 rfl (by kernel_rfl)) hS0 fun L hc => ?_
          refine hk 2 (.int .i64 (now : Int)) hc rfl ?_ hS0 fun L hc => ?_
          · intro w' hS; go_simp
          refine hk 4 (.pointer (some ⟨y, 0, none⟩)) hc rfl ?_ hS0 fun L hc => ?_
          · intro w' hS; go_simp
          refine hk 5 (wagg d.wk d.wn d.wt d.we d.q) hc rfl (fun w' hS => by exact exec_load_at 46 (.tmp 14) rfl BV 0 rfl (wagv d.wk d.wn d.wt d.we d.q) _ (row_cells hS) Tryz.underlying46 rfl (by kernel_rfl)) hS0 fun L hc => ?_
          refine hk 6 (.int .i64 (now : Int)) hc rfl ?_ hS0 fun L hc => ?_
          · intro w' hS; go_simp
          simp only [List.getElem_toArray, List.getElem_cons_succ, List.getElem_cons_zero, Act.put, List.setIfInBounds_toArray, List.set_cons_zero, List.set_cons_succ]
          refine held_one (i := 3) hc rfl (fun K hK => ?_)
          rw [if_pos (by kernel_rfl)]
          go_simp
          refine (step_p HV4.out (by decide) HL.out (d.wk) (d.wn) (d.wt) (d.we) d.q (now : Int) (by omega) (by omega)).mono ?_
          rintro _ w5 ⟨u5, rfl, h5⟩
          obtain ⟨M, h6, hM⟩ := h5.keep
          have HM := Lib.hid hM
          have H6 := Lib.hid h6
          obtain ⟨F3, h3, _⟩ := h6.mem (i := wx BV (wagv d.wk d.wn d.wt d.we d.q)) (by simp)
          refine hK.out _ _ h3 (fun L hS0' hc => ?_)
          clear hK hS0 h5 h6 hM h3 HV4
          have hS0 := hS0'
          clear hS0'
          refine held_one (i := 7) hc rfl (fun K hK => ?_)
          rw [if_pos (by kernel_rfl)]
          go_simp
          refine (H6.out.both ⟨s, HSM.out.1, HMY.out.1, HMY.out.2⟩ (d.wk) (d.wn) (d.wt) (d.we) d.q (now : Int) (by omega) (by omega)).mono ?_
          rintro _ w7 ⟨z7, rfl, hz7, h7⟩
          obtain ⟨F3, h3, _⟩ := h7.mem (i := wx BV (wagv d.wk d.wn d.wt d.we d.q)) (by simp)
          have hs7 := HSM.out.1.step (d.wk) (d.wn) (d.wt) (d.we) (now : Int)
          have hh7 := QHb.step HSM.out.2 (now := (now : Int)) (by omega) (d.wk) (d.wn) (d.wt) (d.we)
          rw [hs7.2, HSM.out.1.r] at hz7
          have HQ7 := Lib.hid (eqls_any (HM.out _ _ _ h7) hz7 (by have := HMY.out.2; omega))
          have HE7 := Lib.hid (And.intro h7 (And.intro hs7.1 hh7))
          refine hK.out _ _ h3 (fun L hS0' hc => ?_)
          clear hK hS0 hz7 h7 hs7 hh7 h3 H6 HM
          have hS0 := hS0'
          clear hS0'
          refine held_one (i := 8) hc rfl (fun K hK => ?_)
          rw [if_pos (by kernel_rfl)]
          go_simp
          refine HQ7.out.mono ?_
          rintro _ w8 ⟨rfl, hb8⟩
          have h8 := HE7.out.1.below hb8
          obtain ⟨F3, h3, _⟩ := h8.mem (i := wx BV (wagv d.wk d.wn d.wt d.we d.q)) (by simp)
          have HE8 := Lib.hid (show ClH w w8 x j c y u u' (stepS s (d.wk) (d.wn) (d.wt) (d.we) (now : Int)).1 (qstep t (d.wk) (d.wn) (d.wt) (d.we) (now : Int)).1 from ⟨h8.lastOne, HE7.out.2⟩)
          refine hK.out _ _ h3 (fun L hS0' hc => ?_)
          clear hK hS0 h8 h3 hb8 HQ7 HE7
          have hS0 := hS0'
          clear hS0'
          refine hk 9 (.bool false) hc rfl ?_ hS0 fun L hc => ?_
          · intro w' hS; go_simp
          simp only [List.getElem_toArray, List.getElem_cons_succ, List.getElem_cons_zero, Act.put, List.setIfInBounds_toArray, List.set_cons_zero, List.set_cons_succ]
          refine held_done hc ?_ _
          clear hS0 hc
          go_wp2_with fail
          go_meet
          case rel => exact ⟨now, x, j, c, y, u, u', _, _, rfl, rfl, rfl, rfl, by omega, HE8⟩
        have b0 : (d.k == 0) = false := by rw [beq_eq_false_iff_ne]; exact hk0
        have b1 : (d.k == 1) = false := by rw [beq_eq_false_iff_ne]; exact hk1
        have b2 : (d.k == 2) = false := by rw [beq_eq_false_iff_ne]; exact hk2
        have HV3 := Lib.hid HV2.out.dropI
        by_cases hk3 : d.k = 3
        · have b3 : (d.k == 3) = true := by rw [beq_iff_eq]; exact hk3
          obtain ⟨k4, hk4, hk4l, hk4a, hk4b⟩ := clmod_four d.n
          clear hk0 hk1 hk2 hk3 HV2 HOP3 v0 g0 x0 x2 x3
          go_wp2_with fail
          clear x1
          refine (tick_p HV3.out (by decide) HL.out ((now : Int) + (k4 : Int)) (by omega) (by omega)).mono ?_
          rintro _ w5 ⟨rfl, h5⟩
          have H5 := Lib.hid h5
          have HS5 := Lib.hid (HSM.out.1.tick ((now : Int) + (k4 : Int)))
          have HQ5 := Lib.hid (QHb.tick HSM.out.2 (now := (now : Int) + (k4 : Int)) (by omega))
          clear h5 HV3
          go_wp2_with fail
          refine (H5.out.tickB HSM.out.1 HMY.out.1 HSM.out.2 ((now : Int) + (k4 : Int)) (by omega) (by omega)).mono ?_
          rintro _ w6 ⟨rfl, u6, u6', h6⟩
          have HE6 := Lib.hid (show ClH w w6 x j c y u6 u6' (tickS s ((now : Int) + (k4 : Int))) (qtick t ((now : Int) + (k4 : Int))) from ⟨h6, HS5.out, HQ5.out⟩)
          clear h6 H5 HS5 HQ5
          go_wp2_with fail
          go_meet
          case rel => exact ⟨now + k4, x, j, c, y, u6, u6', _, _, rfl, by go_num, rfl, rfl, by omega, HE6⟩
        have b3 : (d.k == 3) = false := by rw [beq_eq_false_iff_ne]; exact hk3
        clear hk0 hk1 hk2 hk3 HV2 HOP3 v0 g0 x0 x2 x3
        go_wp2_with fail
        clear x1
        refine (ck_tear HV3.out d.n).mono ?_
        rintro _ w5 ⟨c5, b5, rs5, v5, v5', rfl, hg5, h5⟩
        have HG := Lib.hid hg5
        have H5 := Lib.hid (h5.ixNil.swap)
        clear hg5 h5 HV3
        go_wp2_with fail
        refine (open_last H5.out HG.out.jg HG.out.may HL.out (now : Int) (by omega) (by omega)).mono ?_
        rintro _ w6 ⟨x6, j6, rfl, h6⟩
        have H6 := Lib.hid (h6.ixNew ((Below.refl _ _).alloc (Nat.le_refl _) _) (isat_uno w6 1) (by intro g hg; cases hg; exact Nat.le_refl _))
        clear h6 H5 HG
        go_wp2_with fail
        have HNQ := Lib.hid (H6.out.newq (e := 1) (by kernel_rfl) (now : Int))
        clear H6
        generalize World.alloc w6 _ = W6 at *
        generalize w6.heap.size = B6 at *
        refine HNQ.out.mono ?_
        rintro _ w7 ⟨y7, rfl, h7⟩
        have H7 := Lib.hid h7
        obtain ⟨F7, hq7, hi7, _⟩ := h7.mem (i := qx y u u' t) (by simp)
        obtain ⟨F8, hq8, _⟩ := h7.mem (i := qx y7 (.slice (some ⟨B6, 0, none⟩) 1 1) (.slice none 0 0) (qbegin ⟨1, [1], 0⟩ (now : Int))) (.head _)
        obtain ⟨au, cu, rfl, _⟩ := hi7.shape
        obtain ⟨c0, c1, c2, _⟩ := hq7.cells
        obtain ⟨e0, e1, e2, _, _, _, _, e7, _⟩ := hq8.cells
        have f0 := hq8.free 0
        have f1 := hq8.free 1
        have f2 := hq8.free 2
        have f7 := hq8.free 7
        have HE7 := Lib.hid (show ClH w _ x6 j6 c5 y7 (.slice au t.r.l.length cu) (.slice none 0 0) (beginS s.r (now : Int) ((now : Int) + 6)) ⟨t.r, Ro.zero, false, (now : Int) + 6, allH (now : Int), 0, false⟩ from ⟨CK.take (M := [ix (.slice none 0 0) [], cx x j v5 v5' s, jc c j (jst 1048576 b5 rs5) (jjr b5 rs5)]) h7 ((now : Int) + 6), by rw [HSM.out.1.r]; exact Sim.again s.r s.r Ro.zero _ _, QHb.all (by omega)⟩)
        clear h7 HNQ H7 hq7 hq8 hi7
        go_wp2_with fail
        go_meet
        case rel => exact ⟨now, x6, j6, c5, y7, (.slice au t.r.l.length cu), _, _, _, rfl, rfl, rfl, rfl, by omega, HE7⟩
      case rest =>
        clear HV2 HOP3 HSM HBG x0 x1 x2 x3 hk5
        obtain ⟨now, x, j, c, y, u, u', s, t, rfl, rfl, rfl, rfl, hnow, HH⟩ := hcut
        go_wp2_with fail
        obtain ⟨au, cu, rfl⟩ : ∃ au cu, u = .slice au t.r.l.length cu := by
          obtain ⟨F9, hq9, hi9, _⟩ := HH.out.1.mem (i := qx y u u' t) (.head _)
          obtain ⟨au, cu, h, _⟩ := hi9.shape
          exact ⟨au, cu, h⟩
        have hS0 : ClH w wc.drew x j c y (.slice au t.r.l.length cu) u' s t := ⟨HH.out.1.below (Below.refl _ wc).drew, HH.out.2⟩
        clear HH
        refine wp_region_seq (S := fun Y => ClH w Y x j c y (.slice au t.r.l.length cu) u' s t) (r := clO43) (by kernel_rfl) (seq_of (f := Tryz.f3) (n := 43) (by kernel_rfl) cl_seq43) (fun L hc => ?_)
        refine hk 0 (.pointer (some ⟨x, 0, none⟩)) hc rfl ?_ hS0 fun L hc => ?_
        · intro w' hS; go_simp
        refine hk 2 (.pointer (some ⟨y, 0, none⟩)) hc rfl ?_ hS0 fun L hc => ?_
        · intro w' hS; go_simp
        refine hk 3 (.pointer (some ⟨y, 0, none⟩)) hc rfl ?_ hS0 fun L hc => ?_
        · intro w' hS; go_simp
        refine hk 4 (.pointer (some ⟨y, 0, none⟩)) hc rfl ?_ hS0 fun L hc => ?_
        · intro w' hS; go_simp
        refine hk 5 (.agg #[.int .i64 t.r.ep, .slice au t.r.l.length cu, .int .i64 t.r.nw]) hc rfl ?_ hS0 fun L hc => ?_
        · intro w' hS; obtain ⟨F9, hq9, _⟩ := hS.1.mem (i := qx y (.slice au t.r.l.length cu) u' t) (.head _); obtain ⟨c0, c1, c2, c3, c4, c5, c6, c7, c14, c15⟩ := hq9.cells; clear hq9; go_simp
        simp only [List.getElem_toArray, List.getElem_cons_succ, List.getElem_cons_zero, Act.put, List.setIfInBounds_toArray, List.set_cons_zero, List.set_cons_succ]
        refine held_one (i := 1) hc rfl (fun K hK => ?_)
        rw [if_pos (by kernel_rfl)]
        go_simp
        refine hS0.1.rosterq.mono ?_
        rintro _ w9 ⟨a9, d9, rfl, ho9, h9⟩
        have HO9 := Lib.hid ho9
        have HLE := Lib.hid (show s.r.l.length ≤ 1000 by obtain ⟨_, _, _, _, _, hl5⟩ := hS0.1.chief; omega)
        refine hK.out _ _ ⟨h9, hS0.2⟩ (fun L hS0' hc => ?_)
        clear h9 ho9
        clear hK hS0
        have hS0 := hS0'
        clear hS0'
        refine held_one (i := 6) hc rfl (fun K hK => ?_)
        rw [if_pos (by kernel_rfl)]
        go_simp
        refine (hS0.2.1.same HLE.out HO9.out (by obtain ⟨F9, hq9, hi9, _⟩ := hS0.1.mem (i := qx y (.slice au t.r.l.length cu) u' t) (.head _); exact hi9)).mono ?_
        rintro _ w10 ⟨rfl, hb10⟩
        refine hK.out _ _ ⟨hS0.1.below hb10, hS0.2⟩ (fun L hS0' hc => ?_)
        clear hb10 HO9
        clear hK hS0
        have hS0 := hS0'
        clear hS0'
        refine hk 7 (.bool false) hc rfl ?_ hS0 fun L hc => ?_
        · intro w' hS; go_simp
        refine hk 8 (.bool false) hc rfl ?_ hS0 fun L hc => ?_
        · intro w' hS; go_simp
        refine hk 9 (.pointer (some ⟨x, 0, none⟩)) hc rfl ?_ hS0 fun L hc => ?_
        · intro w' hS; go_simp
        refine hk 11 (.pointer (some ⟨y, 0, none⟩)) hc rfl ?_ hS0 fun L hc => ?_
        · intro w' hS; go_simp
        refine hk 12 (.pointer (some ⟨y, 0, none⟩)) hc rfl ?_ hS0 fun L hc => ?_
        · intro w' hS; go_simp
        refine hk 13 (.pointer (some ⟨y, 6, none⟩)) hc rfl ?_ hS0 fun L hc => ?_
        · intro w' hS; go_simp
        refine hk 14 (.bool s.chg) hc rfl ?_ hS0 fun L hc => ?_
        · intro w' hS; obtain ⟨F9, hq9, _⟩ := hS.1.mem (i := qx y (.slice au t.r.l.length cu) u' t) (.head _); obtain ⟨c0, c1, c2, c3, c4, c5, c6, c7, c14, c15⟩ := hq9.cells; clear hq9; rw [hS.2.1.chg] at c6; go_simp
        simp only [List.getElem_toArray, List.getElem_cons_succ, List.getElem_cons_zero, Act.put, List.setIfInBounds_toArray, List.set_cons_zero, List.set_cons_succ]
        refine held_one (i := 10) hc rfl (fun K hK => ?_)
        rw [if_pos (by kernel_rfl)]
        go_simp
        refine hS0.1.changingq.mono ?_
        rintro _ _ ⟨rfl, rfl⟩
        refine hK.out _ _ hS0 (fun L hS0' hc => ?_)
        clear hK hS0
        have hS0 := hS0'
        clear hS0'
        refine hk 15 (.bool false) hc rfl ?_ hS0 fun L hc => ?_
        · intro w' hS; go_simp
        refine hk 16 (.bool false) hc rfl ?_ hS0 fun L hc => ?_
        · intro w' hS; go_simp
        refine hk 17 (.bool false) hc rfl ?_ hS0 fun L hc => ?_
        · intro w' hS; go_simp
        refine hk 18 (.pointer (some ⟨x, 0, none⟩)) hc rfl ?_ hS0 fun L hc => ?_
        · intro w' hS; go_simp
        refine hk 20 (.pointer (some ⟨y, 0, none⟩)) hc rfl ?_ hS0 fun L hc => ?_
        · intro w' hS; go_simp
        refine hk 21 (.pointer (some ⟨y, 0, none⟩)) hc rfl ?_ hS0 fun L hc => ?_
        · intro w' hS; go_simp
        refine hk 22 (.pointer (some ⟨y, 7, none⟩)) hc rfl ?_ hS0 fun L hc => ?_
        · intro w' hS; go_simp
        refine hk 23 (.int .i64 s.un) hc rfl ?_ hS0 fun L hc => ?_
        · intro w' hS; obtain ⟨F9, hq9, _⟩ := hS.1.mem (i := qx y (.slice au t.r.l.length cu) u' t) (.head _); obtain ⟨c0, c1, c2, c3, c4, c5, c6, c7, c14, c15⟩ := hq9.cells; clear hq9; rw [hS.2.1.un] at c7; go_simp
        simp only [List.getElem_toArray, List.getElem_cons_succ, List.getElem_cons_zero, Act.put, List.setIfInBounds_toArray, List.set_cons_zero, List.set_cons_succ]
        refine held_one (i := 19) hc rfl (fun K hK => ?_)
        rw [if_pos (by kernel_rfl)]
        go_simp
        refine hS0.1.untilq.mono ?_
        rintro _ _ ⟨rfl, rfl⟩
        refine hK.out _ _ hS0 (fun L hS0' hc => ?_)
        clear hK hS0
        have hS0 := hS0'
        clear hS0'
        refine hk 24 (.bool false) hc rfl ?_ hS0 fun L hc => ?_
        · intro w' hS; go_simp
        refine hk 25 (.bool false) hc rfl ?_ hS0 fun L hc => ?_
        · intro w' hS; go_simp
        refine hk 26 (.bool false) hc rfl ?_ hS0 fun L hc => ?_
        · intro w' hS; go_simp
        refine hk 27 (.pointer (some ⟨x, 0, none⟩)) hc rfl ?_ hS0 fun L hc => ?_
        · intro w' hS; go_simp
        refine hk 29 (.pointer (some ⟨y, 0, none⟩)) hc rfl ?_ hS0 fun L hc => ?_
        · intro w' hS; go_simp
        refine hk 30 (.pointer (some ⟨y, 0, none⟩)) hc rfl ?_ hS0 fun L hc => ?_
        · intro w' hS; go_simp
        refine hk 31 (.pointer (some ⟨y, 15, none⟩)) hc rfl ?_ hS0 fun L hc => ?_
        · intro w' hS; go_simp
        refine hk 32 (.bool s.lost) hc rfl ?_ hS0 fun L hc => ?_
        · intro w' hS; obtain ⟨F9, hq9, _⟩ := hS.1.mem (i := qx y (.slice au t.r.l.length cu) u' t) (.head _); obtain ⟨c0, c1, c2, c3, c4, c5, c6, c7, c14, c15⟩ := hq9.cells; clear hq9; rw [hS.2.1.lost] at c15; go_simp
        simp only [List.getElem_toArray, List.getElem_cons_succ, List.getElem_cons_zero, Act.put, List.setIfInBounds_toArray, List.set_cons_zero, List.set_cons_succ]
        refine held_one (i := 28) hc rfl (fun K hK => ?_)
        rw [if_pos (by kernel_rfl)]
        go_simp
        refine hS0.1.lostq.mono ?_
        rintro _ _ ⟨rfl, rfl⟩
        refine hK.out _ _ hS0 (fun L hS0' hc => ?_)
        clear hK hS0
        have hS0 := hS0'
        clear hS0'
        refine hk 33 (.bool false) hc rfl ?_ hS0 fun L hc => ?_
        · intro w' hS; go_simp
        refine hk 34 (.bool false) hc rfl ?_ hS0 fun L hc => ?_
        · intro w' hS; go_simp
        simp only [List.getElem_toArray, List.getElem_cons_succ, List.getElem_cons_zero, Act.put, List.setIfInBounds_toArray, List.set_cons_zero, List.set_cons_succ]
        refine held_done hc ?_ _
        have HE := Lib.hid hS0
        clear hS0 hc HLE
        go_wp2_with fail
        go_roundw
        case rel => exact ⟨i + 1, now, x, j, c, y, _, _, s, t, rfl, rfl, rfl, rfl, by go_num, by omega, by omega, hnow, HE⟩
        case measure => simp [intOf]; omega
end Go.Proofs.YtaacdggjkfmehaaGreatDoor
