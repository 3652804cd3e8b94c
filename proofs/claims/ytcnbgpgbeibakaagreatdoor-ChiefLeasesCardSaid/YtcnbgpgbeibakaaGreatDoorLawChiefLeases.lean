/-
  Contracts of the program, and what they rest on.
-/
import Derived.Test.YtcnbgpgbeibakaaGreatDoorM05
import Derived.Test.YtcnbgpgbeibakaaGreatDoorRRosF
import Derived.Test.YtcnbgpgbeibakaaGreatDoorRChJ
import Derived.Test.YtcnbgpgbeibakaaGreatDoorOpA
import Derived.Test.YtcnbgpgbeibakaaGreatDoorChP
import Derived.Test.YtcnbgpgbeibakaaGreatDoorLdR
import Derived.Test.YtcnbgpgbeibakaaGreatDoorLawChiefLast
namespace Go.Proofs.YtcnbgpgbeibakaaGreatDoor
open Go.RowKit Go.Maps Go.Proofs.MapD Go.Proofs.Chest
def LsI (s : Cs) : Prop := s.chg = true → s.nx.ep = s.r.ep + 1
theorem ls_zero {s : Cs} (h : s.nx = Ro.zero) : LsI s := by
  intro h1
  unfold Cs.chg at h1
  rw [h] at h1
  cases h1
theorem ls_tick {s : Cs} (h : LsI s) (now : Int) : LsI (tickS s now) ∧ (tickS s now).un = s.un ∧ ((tickS s now).r.ep = s.r.ep ∨ ((tickS s now).r.ep = s.r.ep + 1 ∧ s.un < now)) := by
  unfold tickS
  split
  · rename_i hc
    split
    · rename_i hu
      exact ⟨ls_zero rfl, rfl, .inr ⟨h hc, hu⟩⟩
    · exact ⟨h, rfl, .inl rfl⟩
  · unfold findS
    split
    · refine ⟨?_, rfl, .inl rfl⟩
      rcases addR_cases s.r s.asks with ⟨h1, _⟩ | h1
      · rw [h1]
        intro _
        rfl
      · rw [h1]
        exact ls_zero rfl
    · refine ⟨?_, rfl, .inl rfl⟩
      rcases dropR_cases s.r (silentS s.hd now s.r.l) with ⟨_, _, _, _, _, h1⟩ | h1
      · intro _
        exact h1
      · rw [h1]
        exact ls_zero rfl
theorem ls_beat {s : Cs} (h : LsI s) (n ep now : Int) (hn : 1 ≤ n ∧ n ≤ 5) : (stepS s 1 n 0 ep now).1.r.ep = s.r.ep ∧ LsI (stepS s 1 n 0 ep now).1 ∧ s.un ≤ (stepS s 1 n 0 ep now).1.un ∧
    ((stepS s 1 n 0 ep now).2 = none ∨ ((stepS s 1 n 0 ep now).2 = some (n, now + 6) ∧ now + 6 ≤ (stepS s 1 n 0 ep now).1.un ∧ 0 ≤ ixI s.r.l n)) := by
  unfold stepS
  rw [if_neg (by omega), if_pos rfl]
  unfold beatS
  split
  · rename_i hh
    split
    · exact ⟨rfl, h, Int.le_refl _, .inl rfl⟩
    · refine ⟨rfl, h, ?_, .inr ⟨rfl, ?_, of_decide_eq_true hh⟩⟩
      · show s.un ≤ max s.un (now + 6)
        omega
      · show now + 6 ≤ max s.un (now + 6)
        omega
  · exact ⟨rfl, h, Int.le_refl _, .inl rfl⟩
theorem ls_full {s : Cs} (h : LsI s) (n ep now : Int) (hn : 1 ≤ n ∧ n ≤ 5) : (stepS s 11 n 0 ep now).1.r.ep = s.r.ep ∧ LsI (stepS s 11 n 0 ep now).1 ∧ s.un ≤ (stepS s 11 n 0 ep now).1.un ∧ (stepS s 11 n 0 ep now).2 = none := by
  unfold stepS
  rw [if_neg (by omega), if_neg (by decide), if_pos rfl]
  unfold fullS
  split
  · exact ⟨rfl, h, Int.le_refl _, rfl⟩
  · exact ⟨rfl, h, Int.le_refl _, rfl⟩
theorem mod_three (n : Int) : ∃ k : Nat, (n.tmod 3 + 3).tmod 3 = (k : Int) ∧ k < 3 ∧ -3 < n.tmod 3 ∧ n.tmod 3 < 3 := by
  have g1 := Int.tmod_lt_of_pos n (show (0 : Int) < 3 by decide)
  have g2 := Int.lt_tmod_of_pos n (show (0 : Int) < 3 by decide)
  generalize n.tmod 3 = r at *
  have g3 := Int.tmod_lt_of_pos (r + 3) (show (0 : Int) < 3 by decide)
  have g4 := Int.tmod_nonneg 3 (show (0 : Int) ≤ r + 3 by omega)
  exact ⟨((r + 3).tmod 3).toNat, by omega, by omega, by omega, by omega⟩
def wbc (k n ep : Int) : Array Value := #[.int .i64 k, .int .i64 n, .int .i64 0, .int .i64 ep, .int .i64 0, .int .i64 0, .int .i64 0, .int .i64 0, .int .i64 0, .int .i64 0, .slice none 0 0, .int .i64 0, .slice none 0 0, .int .i64 0, .slice none 0 0, .slice none 0 0, .int .i64 0, .int .i64 0, .int .i64 0, .int .i64 0, .int .i64 0]
theorem wbc_one (k n ep : Int) : (wbc k n ep).all (·.oneCell') = true := by simp [wbc, Value.oneCell']
theorem wcells_one (to un : Int) (r : Ro) (ad : Option Addr) (cap : Nat) : (wcells to un r ad cap).all (·.oneCell') = true := by simp [wcells, Value.oneCell']
theorem setRow_alloc' (w : World) (zs cs : Array Value) (t : TypeId) (g : Nat) (h : g = w.heap.size) : (w.alloc (.cells zs t)).setRow g cs = w.alloc (.cells cs t) := by
  subst h
  exact setRow_alloc w zs cs t
theorem isat_three (w : World) (x y z : Int) : IsAt (w.alloc (.cells #[.int .i64 x, .int .i64 y, .int .i64 z] 3)) (.slice (some ⟨w.heap.size, 0, none⟩) 3 3) [x, y, z] :=
  .inr ⟨w.heap.size, 0, 3, rfl, by simp, by unfold maxLen; omega, by simp, fun j u hu => by
    match j, hu with
    | 0, hu => simp at hu; subst hu; go_simp
    | 1, hu => simp at hu; subst hu; go_simp
    | 2, hu => simp at hu; subst hu; go_simp
    | j + 3, hu => simp at hu⟩
set_option maxRecDepth 100000 in
set_option maxHeartbeats 400000000 in
theorem chiefLeases_walk (v0 : Value) (len : Nat) (D : Nat → OpD) (ob off cap : Nat) (a0 : Option Addr) (hv0 : v0 = .slice a0 len cap) (ha0 : 0 < len → a0 = some ⟨ob, off, none⟩) (w : World) (hB : BegunTrue10) (hlib : LibAt w)
    (hlen : len ≤ 9223372036854775807) (hob : 0 < len → ob < w.heap.size) (hD : ∀ i, i < len → OpAt w ob (off + i * 25) (D i)) :
    Calls Tryz.prog 4 #[v0] w fun e w' => e = .returned (.bool true) ∧ Below w.heap.size w w' := by
  subst hv0
  have HB := Lib.hid (hB w hlib)
  have HL := Lib.hid hlib
  have HD := Lib.hid hD
  have HA0 := Lib.hid ha0
  have HOB := Lib.hid hob
  clear hB hlib hD ha0 hob
  go_enter Tryz.func4, Tryz.ntmps4
  go_wp2_with fail
  refine HB.out.mono ?_
  rintro _ w1 ⟨rfl, hb1⟩
  have H1 := Lib.hid ((Sp.start w).below hb1)
  clear hb1 HB
  go_wp2_with fail
  refine (s_new 1048576 H1.out).mono ?_
  rintro _ w2 ⟨c, rfl, h2⟩
  rw [r_new] at h2
  have hi2 := isat_three w2 1 2 3
  have H2 := Lib.hid ((h2.ixNew ((Below.refl _ _).alloc (Nat.le_refl _) _) hi2 (by intro g hg; cases hg; exact Nat.le_refl _)).swap)
  clear h2 hi2 H1
  go_wp2_with fail
  generalize w2.alloc _ = W2 at *
  refine (open_new H2.out (by decide) (by kernel_rfl) HL.out 0).mono ?_
  rintro _ w3 ⟨x, j, rfl, h3⟩
  have H3 : Hid (CK w w3 x j c 1048576 (beginS ⟨1, [1, 2, 3], 0⟩ 0 0) [ix (.slice (some ⟨w2.heap.size, 0, none⟩) 3 3) [1, 2, 3]]) := Lib.hid h3
  have HS3 : Hid (LsI (beginS ⟨1, [1, 2, 3], 0⟩ 0 0)) := Lib.hid (ls_zero rfl)
  clear h3 H2
  generalize ix (.slice (some ⟨w2.heap.size, 0, none⟩) 3 3) [1, 2, 3] = I3 at *
  go_wp2_with fail
  go_loopw [5, 8, 9, 10] (fun v5 v8 v9 v10 wr => ∃ (t i : Nat) (u ep : Int) (s : Cs), v5 = .int .i64 (t : Int) ∧ v8 = .int .i64 u ∧ v9 = .int .i64 ep ∧ v10 = .int .i64 (i : Int) ∧ s.r.ep = ep ∧ i ≤ len ∧ i ≤ 80 ∧ t ≤ 3 * i ∧ u ≤ s.un ∧ Hid (LsI s) ∧ Hid (CK w wr x j c 1048576 s [I3])) (fun _ _ _ v10 _ => len - (intOf v10).toNat)
  case atStart => exact ⟨0, 0, 0, 1, _, rfl, rfl, rfl, rfl, rfl, Nat.zero_le _, Nat.zero_le _, Nat.zero_le _, Int.le_refl _, HS3, H3⟩
  case round =>
    obtain ⟨t, i, u, ep, s, rfl, rfl, rfl, rfl, hep, hi, hi80, ht, hu, HS, HK⟩ := hrel
    clear H3 HS3
    by_cases hil : i < len
    case neg =>
      go_wp2_with fail
      go_ret
      exact ⟨rfl, HK.out.bl⟩
    by_cases hi8 : i < 80
    case neg =>
      go_wp2_with fail
      go_ret
      exact ⟨rfl, HK.out.bl⟩
    obtain rfl := HA0.out (by omega)
    have hoblt := HOB.out (by omega)
    have hop := (HD.out i hil).below HK.out.bl hoblt
    have hep0 : 1 ≤ ep ∧ ep ≤ 1099511627776 := by
      obtain ⟨_, _, _, _, hm, _⟩ := HK.out.chief
      rw [← hep]
      exact may_ep hm
    have hep1 := hep0.1
    have hep2 := hep0.2
    generalize D i = d at *
    have HK0 := Lib.hid (HK.out.below ((Below.refl _ wr).alloc (Nat.le_refl _) (.cells (opcells d) 48)))
    have HK1 := Lib.hid (fun kk : Int => HK.out.below (((Below.refl _ wr).alloc (Nat.le_refl _) (.cells (opcells d) 48)).alloc (by simp) (.cells (wbc kk (1 + ((((d.f.tmod 5 + 5).tmod 5).toNat : Nat) : Int)) ep) 46)))
    obtain ⟨x0, x1, x2, x3⟩ := op_cells (heap_alloc_new wr (.cells (opcells d) 48))
    obtain ⟨k3, hk3, hk3l, hk3a, hk3b⟩ := mod_three d.n
    obtain ⟨k5, hk5, hk5l, hk5a, hk5b⟩ := mod_five d.f
    rw [show ((((d.f.tmod 5 + 5).tmod 5).toNat : Nat) : Int) = (k5 : Int) by omega] at HK1
    have hzb := heap_alloc_new wr (.cells opz 48)
    have hone := op_one d
    have hsz1 : wr.heap.size + 1 = (wr.alloc (.cells (opcells d) 48)).heap.size := by simp
    have hzw : ((wr.alloc (.cells (opcells d) 48)).alloc (.cells (wbc 0 0 0) 46)).heap[wr.heap.size + 1]? = some (.cells (wbc 0 0 0) 46 (0, 0)) := by rw [hsz1]; exact heap_alloc_new _ _
    have hwb : ∀ kk : Int, ((wr.alloc (.cells (opcells d) 48)).alloc (.cells (wbc kk (1 + (k5 : Int)) ep) 46)).heap[wr.heap.size + 1]? = some (.cells (wbc kk (1 + (k5 : Int)) ep) 46 (0, 0)) := fun kk => by rw [hsz1]; exact heap_alloc_new _ _
    have hone2 := wbc_one 1 (1 + (k5 : Int)) ep
    have hy0 : ∀ kk : Int, ((wr.alloc (.cells (opcells d) 48)).alloc (.cells (wbc kk (1 + (k5 : Int)) ep) 46)).cell? ⟨wr.heap.size, 0, none⟩ = some (.int .i64 d.k) := fun kk => by
      have hbl := (Below.refl (wr.alloc (.cells (opcells d) 48)).heap.size (wr.alloc (.cells (opcells d) 48))).alloc (Nat.le_refl _) (.cells (wbc kk (1 + (k5 : Int)) ep) 46)
      rw [← x0]
      unfold World.cell?
      dsimp only
      rw [hbl.block wr.heap.size (by simp)]
    have HY0 := Lib.hid hy0
    have hoc0 : (opcells d)[0]? = some (.int .i64 d.k) := rfl
    have HSZ1 := Lib.hid hsz1
    have HWB := Lib.hid hwb
    clear hoblt hep0 hsz1 hwb hy0
    by_cases k0 : d.k = 0
    · have b0 : (d.k == 0) = true := by rw [beq_iff_eq]; exact k0
      have b1 : (d.k == 1) = false := by rw [beq_eq_false_iff_ne]; omega
      clear k0
      have y0 := HY0.out 1
      unfold wbc at y0
      have HKW := Lib.hid (HK1.out 1)
      unfold wbc at HKW
      go_wp2_with (first
        | (refine wpList_load_at (o := ⟨some 43, _, _, _, _, _⟩) rfl 48 (.tmp 42) rfl ob (off + i * 25) rfl (opcells d) _ hop Tryz.underlying48 rfl (by kernel_rfl) ?_)
        | (refine wpList_store_row (o := ⟨none, _, _, _, _, _⟩) rfl 48 (.tmp 11) (.tmp 43) rfl wr.heap.size (opcells d) rfl rfl 48 opz hzb (by kernel_rfl) rfl hone ?_; rw [setRow_alloc])
        | (refine wpList_store_row (o := ⟨none, _, _, _, _, _⟩) rfl 46 (.tmp 12) (.tmp 67) rfl (wr.heap.size + 1) (wbc 1 (1 + (k5 : Int)) ep) rfl rfl 46 (wbc 0 0 0) hzw (by kernel_rfl) rfl hone2 ?_; rw [setRow_alloc' _ _ _ _ _ HSZ1.out]; unfold wbc)
        | (refine wpList_load_row (o := ⟨some 73, _, _, _, _, _⟩) rfl 46 (.tmp 12) rfl (wr.heap.size + 1) rfl 46 (wbc 1 (1 + (k5 : Int)) ep) (0, 0) _ (HWB.out 1) Tryz.underlying46 rfl (by kernel_rfl) ?_))
      clear hop hzb hone hzw hone2 x0 x1 x2 x3 HSZ1 HWB HY0 hoc0 y0
      generalize World.alloc (World.alloc wr _) _ = W4 at *
      have hbt := ls_beat HS.out (1 + (k5 : Int)) ep (t : Int) (by omega)
      refine (step_p HKW.out (by decide) HL.out 1 (1 + (k5 : Int)) 0 ep Wq.zero (t : Int) (by omega) (by omega)).mono ?_
      rintro _ w6 ⟨u6, rfl, h6⟩
      generalize stepS s 1 (1 + (k5 : Int)) 0 ep (t : Int) = p6 at *
      obtain ⟨s6, q6⟩ := p6
      dsimp only at hbt h6
      obtain ⟨hq1, hq2, hq3, hq4⟩ := hbt
      rw [hep] at hq1
      have HS6 := Lib.hid hq2
      have hlen6 : s.r.l.length ≤ 1000 := by
        obtain ⟨_, _, _, _, _, hl⟩ := HKW.out.chief
        omega
      have HLE := Lib.hid hlen6
      clear hq2 hlen6
      rcases hq4 with rfl | ⟨rfl, hq5, hq6⟩
      · obtain ⟨rfl, h6⟩ := h6
        have H6 : Hid (CK w w6 x j c 1048576 s6 [I3]) := Lib.hid h6
        have hun : decide (s6.un < u) = false := decide_eq_false (by omega)
        clear h6 HK1 HKW HK HS HLE
        go_wp2_with fail
        refine wp_loop_rounds 1 ?_
        rw [rounds_succ]
        obtain ⟨v, v', hc, hv, _, hl⟩ := H6.out.chief
        have HRO := Lib.hid (croster_p hc hv (by omega))
        clear hc hv hl
        rw [hq1] at HRO
        go_wp2_with fail
        refine HRO.out.mono ?_
        rintro _ w9 ⟨a9, c9, rfl, _, hb9⟩
        have H9 := Lib.hid ((H6.out.below hb9).below ((Below.refl _ w9).alloc (Nat.le_refl _) (.cells #[.int .i64 ep, .slice a9 s6.r.l.length c9, .int .i64 s6.r.nw] 24)))
        clear hb9 HRO H6
        go_wp2_with fail
        generalize w9.alloc _ = W9 at *
        obtain ⟨_, _, hc9, _⟩ := H9.out.chief
        refine (until_p hc9).mono ?_
        rintro _ _ ⟨rfl, rfl⟩
        clear hc9
        go_wp2_with fail
        go_roundw
        case rel => exact ⟨t, i + 1, u, ep, s6, rfl, rfl, rfl, by go_num, hq1, by omega, by omega, by omega, by omega, HS6, H9⟩
        case measure => simp [intOf]; omega
      · have HC6 : Hid (CK w w6 x j c 1048576 s6 [I3]) := Lib.hid h6.ck
        obtain ⟨g6, a6, c6, rfl, h6⟩ := h6
        have h6 : CK w w6 x j c 1048576 s6 [wx g6 (wcells (1 + (k5 : Int)) ((t : Int) + 6) s.r a6 c6), ix (.slice a6 s.r.l.length c6) s.r.l, I3] := h6
        obtain ⟨hwx, hix⟩ : w6.heap[g6]? = some (.cells (wcells (1 + (k5 : Int)) ((t : Int) + 6) s.r a6 c6) 46 (0, 0)) ∧ IsAt w6 (.slice a6 s.r.l.length c6) s.r.l := by
          obtain ⟨v, v', bb, rs, hg, hsp⟩ := h6
          obtain ⟨_, h7, _⟩ := hsp.mem (i := wx g6 (wcells (1 + (k5 : Int)) ((t : Int) + 6) s.r a6 c6)) (by simp)
          obtain ⟨_, h8, _⟩ := hsp.mem (i := ix (.slice a6 s.r.l.length c6) s.r.l) (by simp)
          exact ⟨h7, h8⟩
        have hzl := heap_alloc_new w6 (.cells (wbc 0 0 0) 46)
        have hone3 := wcells_one (1 + (k5 : Int)) ((t : Int) + 6) s.r a6 c6
        have HIX7 : Hid (∀ cs : Array Value, IsAt (w6.alloc (.cells cs 46)) (.slice a6 s.r.l.length c6) s.r.l) := Lib.hid (fun cs => hix.below ((Below.refl _ _).alloc (Nat.le_refl _) _))
        have H7 : Hid (∀ cs : Array Value, CK w (w6.alloc (.cells cs 46)) x j c 1048576 s6 [I3]) := Lib.hid (fun cs => HC6.out.below ((Below.refl _ _).alloc (Nat.le_refl _) _))
        have HEQ6 := Lib.hid hq6
        have hun : decide (s6.un < max u ((t : Int) + 6)) = false := decide_eq_false (by omega)
        clear hix h6 HC6 HK1 HKW HK HS hq6
        go_wp2_with fail
        refine wp_loop_rounds 2 ?_
        rw [rounds_succ]
        go_wp2_with (first
          | (refine wpList_load_row (o := ⟨some 80, _, _, _, _, _⟩) rfl 46 (.tmp 79) rfl g6 rfl 46 (wcells (1 + (k5 : Int)) ((t : Int) + 6) s.r a6 c6) (0, 0) _ hwx Tryz.underlying46 rfl (by kernel_rfl) ?_)
          | (refine wpList_store_row (o := ⟨none, _, _, _, _, _⟩) rfl 46 (.tmp 14) (.tmp 80) rfl w6.heap.size (wcells (1 + (k5 : Int)) ((t : Int) + 6) s.r a6 c6) rfl rfl 46 (wbc 0 0 0) hzl (by kernel_rfl) rfl hone3 ?_; rw [setRow_alloc]; unfold wcells))
        have hlt6 : decide (ixI s.r.l (1 + (k5 : Int)) < 0) = false := decide_eq_false (by have := HEQ6.out; omega)
        refine (spot_p _ _ (1 + (k5 : Int)) _ s.r.l _ (HIX7.out _) HLE.out).mono ?_
        generalize ixI s.r.l (1 + (k5 : Int)) = X6 at *
        rintro _ w8 ⟨rfl, hb8⟩
        have H8 := Lib.hid ((H7.out _).below hb8)
        have hc8 := (hb8.block w6.heap.size (by simp)).trans (heap_alloc_new w6 _)
        have y6 : w8.cell? ⟨w6.heap.size, 6, none⟩ = some (.int .i64 ((t : Int) + 6)) := by
          rw [cell_block hc8]
          rfl
        clear hb8 hc8 H7 HIX7 HLE HEQ6 hzl hone3 hwx
        go_wp2_with fail
        rw [rounds_succ]
        obtain ⟨v, v', hc, hv, _, hl⟩ := H8.out.chief
        have HRO := Lib.hid (croster_p hc hv (by omega))
        clear hc hv hl
        rw [hq1] at HRO
        go_wp2_with fail
        refine HRO.out.mono ?_
        rintro _ w9 ⟨a9, c9, rfl, _, hb9⟩
        have H9 := Lib.hid ((H8.out.below hb9).below ((Below.refl _ w9).alloc (Nat.le_refl _) (.cells #[.int .i64 ep, .slice a9 s6.r.l.length c9, .int .i64 s6.r.nw] 24)))
        clear hb9 HRO H8
        go_wp2_with fail
        generalize w9.alloc _ = W9 at *
        obtain ⟨_, _, hc9, _⟩ := H9.out.chief
        refine (until_p hc9).mono ?_
        rintro _ _ ⟨rfl, rfl⟩
        clear hc9
        go_wp2_with fail
        go_roundw
        case rel => exact ⟨t, i + 1, (max u ((t : Int) + 6)), ep, s6, rfl, rfl, rfl, by go_num, hq1, by omega, by omega, by omega, by omega, HS6, H9⟩
        case measure => simp [intOf]; omega
    have b0 : (d.k == 0) = false := by rw [beq_eq_false_iff_ne]; exact k0
    by_cases k1 : d.k = 1
    · have b1 : (d.k == 1) = true := by rw [beq_iff_eq]; exact k1
      clear k0 k1
      have y0 := HY0.out 1
      unfold wbc at y0
      have HKW := Lib.hid (HK1.out 11)
      unfold wbc at HKW
      go_wp2_with (first
        | (refine wpList_load_at (o := ⟨some 43, _, _, _, _, _⟩) rfl 48 (.tmp 42) rfl ob (off + i * 25) rfl (opcells d) _ hop Tryz.underlying48 rfl (by kernel_rfl) ?_)
        | (refine wpList_store_row (o := ⟨none, _, _, _, _, _⟩) rfl 48 (.tmp 11) (.tmp 43) rfl wr.heap.size (opcells d) rfl rfl 48 opz hzb (by kernel_rfl) rfl hone ?_; rw [setRow_alloc])
        | (refine wpList_store_row (o := ⟨none, _, _, _, _, _⟩) rfl 46 (.tmp 12) (.tmp 67) rfl (wr.heap.size + 1) (wbc 1 (1 + (k5 : Int)) ep) rfl rfl 46 (wbc 0 0 0) hzw (by kernel_rfl) rfl hone2 ?_; rw [setRow_alloc' _ _ _ _ _ HSZ1.out]; unfold wbc)
        | (refine wpList_load_row (o := ⟨some 73, _, _, _, _, _⟩) rfl 46 (.tmp 12) rfl (wr.heap.size + 1) rfl 46 (wbc 11 (1 + (k5 : Int)) ep) (0, 0) _ (HWB.out 11) Tryz.underlying46 rfl (by kernel_rfl) ?_))
      clear hop hzb hone hzw hone2 x0 x1 x2 x3 HSZ1 HWB HY0 hoc0 y0
      generalize World.alloc (World.alloc wr _) _ = W4 at *
      have hbt := ls_full HS.out (1 + (k5 : Int)) ep (t : Int) (by omega)
      refine (step_p HKW.out (by decide) HL.out 11 (1 + (k5 : Int)) 0 ep Wq.zero (t : Int) (by omega) (by omega)).mono ?_
      rintro _ w6 ⟨u6, rfl, h6⟩
      generalize stepS s 11 (1 + (k5 : Int)) 0 ep (t : Int) = p6 at *
      obtain ⟨s6, q6⟩ := p6
      dsimp only at hbt h6
      obtain ⟨hq1, hq2, hq3, hq4⟩ := hbt
      rw [hep] at hq1
      have HS6 := Lib.hid hq2
      have hlen6 : s.r.l.length ≤ 1000 := by
        obtain ⟨_, _, _, _, _, hl⟩ := HKW.out.chief
        omega
      have HLE := Lib.hid hlen6
      clear hq2 hlen6
      subst hq4
      obtain ⟨rfl, h6⟩ := h6
      have H6 : Hid (CK w w6 x j c 1048576 s6 [I3]) := Lib.hid h6
      have hun : decide (s6.un < u) = false := decide_eq_false (by omega)
      clear h6 HK1 HKW HK HS HLE
      go_wp2_with fail
      refine wp_loop_rounds 1 ?_
      rw [rounds_succ]
      obtain ⟨v, v', hc, hv, _, hl⟩ := H6.out.chief
      have HRO := Lib.hid (croster_p hc hv (by omega))
      clear hc hv hl
      rw [hq1] at HRO
      go_wp2_with fail
      refine HRO.out.mono ?_
      rintro _ w9 ⟨a9, c9, rfl, _, hb9⟩
      have H9 := Lib.hid ((H6.out.below hb9).below ((Below.refl _ w9).alloc (Nat.le_refl _) (.cells #[.int .i64 ep, .slice a9 s6.r.l.length c9, .int .i64 s6.r.nw] 24)))
      clear hb9 HRO H6
      go_wp2_with fail
      generalize w9.alloc _ = W9 at *
      obtain ⟨_, _, hc9, _⟩ := H9.out.chief
      refine (until_p hc9).mono ?_
      rintro _ _ ⟨rfl, rfl⟩
      clear hc9
      go_wp2_with fail
      go_roundw
      case rel => exact ⟨t, i + 1, u, ep, s6, rfl, rfl, rfl, by go_num, hq1, by omega, by omega, by omega, by omega, HS6, H9⟩
      case measure => simp [intOf]; omega
    have b1 : (d.k == 1) = false := by rw [beq_eq_false_iff_ne]; exact k1
    by_cases k2 : d.k = 2
    · have b2 : (d.k == 2) = true := by rw [beq_iff_eq]; exact k2
      clear k0 k1 k2
      have y0 := HY0.out 1
      unfold wbc at y0
      have HKW := Lib.hid (HK1.out 1)
      unfold wbc at HKW
      go_wp2_with (first
        | (refine wpList_load_at (o := ⟨some 43, _, _, _, _, _⟩) rfl 48 (.tmp 42) rfl ob (off + i * 25) rfl (opcells d) _ hop Tryz.underlying48 rfl (by kernel_rfl) ?_)
        | (refine wpList_store_row (o := ⟨none, _, _, _, _, _⟩) rfl 48 (.tmp 11) (.tmp 43) rfl wr.heap.size (opcells d) rfl rfl 48 opz hzb (by kernel_rfl) rfl hone ?_; rw [setRow_alloc])
        | (refine wpList_store_row (o := ⟨none, _, _, _, _, _⟩) rfl 46 (.tmp 12) (.tmp 67) rfl (wr.heap.size + 1) (wbc 1 (1 + (k5 : Int)) ep) rfl rfl 46 (wbc 0 0 0) hzw (by kernel_rfl) rfl hone2 ?_; rw [setRow_alloc' _ _ _ _ _ HSZ1.out]; unfold wbc)
        | (refine wpList_load_row (o := ⟨some 73, _, _, _, _, _⟩) rfl 46 (.tmp 12) rfl (wr.heap.size + 1) rfl 46 (wbc 1 (1 + (k5 : Int)) ep) (0, 0) _ (HWB.out 1) Tryz.underlying46 rfl (by kernel_rfl) ?_))
      clear hop hzb hone hzw hone2 x0 x1 x2 x3 HSZ1 HWB HY0 hoc0 y0
      generalize World.alloc (World.alloc wr _) _ = W4 at *
      have hbt := ls_beat HS.out (1 + (k5 : Int)) ep (t : Int) (by omega)
      refine (step_p HKW.out (by decide) HL.out 1 (1 + (k5 : Int)) 0 ep Wq.zero (t : Int) (by omega) (by omega)).mono ?_
      rintro _ w6 ⟨u6, rfl, h6⟩
      generalize stepS s 1 (1 + (k5 : Int)) 0 ep (t : Int) = p6 at *
      obtain ⟨s6, q6⟩ := p6
      dsimp only at hbt h6
      obtain ⟨hq1, hq2, hq3, hq4⟩ := hbt
      rw [hep] at hq1
      have HS6 := Lib.hid hq2
      have hlen6 : s.r.l.length ≤ 1000 := by
        obtain ⟨_, _, _, _, _, hl⟩ := HKW.out.chief
        omega
      have HLE := Lib.hid hlen6
      clear hq2 hlen6
      rcases hq4 with rfl | ⟨rfl, hq5, hq6⟩
      · obtain ⟨rfl, h6⟩ := h6
        have H6 : Hid (CK w w6 x j c 1048576 s6 [I3]) := Lib.hid h6
        have hun : decide (s6.un < u) = false := decide_eq_false (by omega)
        clear h6 HK1 HKW HK HS HLE
        go_wp2_with fail
        refine wp_loop_rounds 1 ?_
        rw [rounds_succ]
        obtain ⟨v, v', hc, hv, _, hl⟩ := H6.out.chief
        have HRO := Lib.hid (croster_p hc hv (by omega))
        clear hc hv hl
        rw [hq1] at HRO
        go_wp2_with fail
        refine HRO.out.mono ?_
        rintro _ w9 ⟨a9, c9, rfl, _, hb9⟩
        have H9 := Lib.hid ((H6.out.below hb9).below ((Below.refl _ w9).alloc (Nat.le_refl _) (.cells #[.int .i64 ep, .slice a9 s6.r.l.length c9, .int .i64 s6.r.nw] 24)))
        clear hb9 HRO H6
        go_wp2_with fail
        generalize w9.alloc _ = W9 at *
        obtain ⟨_, _, hc9, _⟩ := H9.out.chief
        refine (until_p hc9).mono ?_
        rintro _ _ ⟨rfl, rfl⟩
        clear hc9
        go_wp2_with fail
        go_roundw
        case rel => exact ⟨t, i + 1, u, ep, s6, rfl, rfl, rfl, by go_num, hq1, by omega, by omega, by omega, by omega, HS6, H9⟩
        case measure => simp [intOf]; omega
      · have HC6 : Hid (CK w w6 x j c 1048576 s6 [I3]) := Lib.hid h6.ck
        obtain ⟨g6, a6, c6, rfl, h6⟩ := h6
        have h6 : CK w w6 x j c 1048576 s6 [wx g6 (wcells (1 + (k5 : Int)) ((t : Int) + 6) s.r a6 c6), ix (.slice a6 s.r.l.length c6) s.r.l, I3] := h6
        obtain ⟨hwx, hix⟩ : w6.heap[g6]? = some (.cells (wcells (1 + (k5 : Int)) ((t : Int) + 6) s.r a6 c6) 46 (0, 0)) ∧ IsAt w6 (.slice a6 s.r.l.length c6) s.r.l := by
          obtain ⟨v, v', bb, rs, hg, hsp⟩ := h6
          obtain ⟨_, h7, _⟩ := hsp.mem (i := wx g6 (wcells (1 + (k5 : Int)) ((t : Int) + 6) s.r a6 c6)) (by simp)
          obtain ⟨_, h8, _⟩ := hsp.mem (i := ix (.slice a6 s.r.l.length c6) s.r.l) (by simp)
          exact ⟨h7, h8⟩
        have hzl := heap_alloc_new w6 (.cells (wbc 0 0 0) 46)
        have hone3 := wcells_one (1 + (k5 : Int)) ((t : Int) + 6) s.r a6 c6
        have HIX7 : Hid (∀ cs : Array Value, IsAt (w6.alloc (.cells cs 46)) (.slice a6 s.r.l.length c6) s.r.l) := Lib.hid (fun cs => hix.below ((Below.refl _ _).alloc (Nat.le_refl _) _))
        have H7 : Hid (∀ cs : Array Value, CK w (w6.alloc (.cells cs 46)) x j c 1048576 s6 [I3]) := Lib.hid (fun cs => HC6.out.below ((Below.refl _ _).alloc (Nat.le_refl _) _))
        have HEQ6 := Lib.hid hq6
        have hun : decide (s6.un < max u ((t : Int) + 6)) = false := decide_eq_false (by omega)
        clear hix h6 HC6 HK1 HKW HK HS hq6
        go_wp2_with fail
        refine wp_loop_rounds 2 ?_
        rw [rounds_succ]
        go_wp2_with (first
          | (refine wpList_load_row (o := ⟨some 80, _, _, _, _, _⟩) rfl 46 (.tmp 79) rfl g6 rfl 46 (wcells (1 + (k5 : Int)) ((t : Int) + 6) s.r a6 c6) (0, 0) _ hwx Tryz.underlying46 rfl (by kernel_rfl) ?_)
          | (refine wpList_store_row (o := ⟨none, _, _, _, _, _⟩) rfl 46 (.tmp 14) (.tmp 80) rfl w6.heap.size (wcells (1 + (k5 : Int)) ((t : Int) + 6) s.r a6 c6) rfl rfl 46 (wbc 0 0 0) hzl (by kernel_rfl) rfl hone3 ?_; rw [setRow_alloc]; unfold wcells))
        have hlt6 : decide (ixI s.r.l (1 + (k5 : Int)) < 0) = false := decide_eq_false (by have := HEQ6.out; omega)
        refine (spot_p _ _ (1 + (k5 : Int)) _ s.r.l _ (HIX7.out _) HLE.out).mono ?_
        generalize ixI s.r.l (1 + (k5 : Int)) = X6 at *
        rintro _ w8 ⟨rfl, hb8⟩
        have H8 := Lib.hid ((H7.out _).below hb8)
        have hc8 := (hb8.block w6.heap.size (by simp)).trans (heap_alloc_new w6 _)
        have y6 : w8.cell? ⟨w6.heap.size, 6, none⟩ = some (.int .i64 ((t : Int) + 6)) := by
          rw [cell_block hc8]
          rfl
        clear hb8 hc8 H7 HIX7 HLE HEQ6 hzl hone3 hwx
        go_wp2_with fail
        rw [rounds_succ]
        obtain ⟨v, v', hc, hv, _, hl⟩ := H8.out.chief
        have HRO := Lib.hid (croster_p hc hv (by omega))
        clear hc hv hl
        rw [hq1] at HRO
        go_wp2_with fail
        refine HRO.out.mono ?_
        rintro _ w9 ⟨a9, c9, rfl, _, hb9⟩
        have H9 := Lib.hid ((H8.out.below hb9).below ((Below.refl _ w9).alloc (Nat.le_refl _) (.cells #[.int .i64 ep, .slice a9 s6.r.l.length c9, .int .i64 s6.r.nw] 24)))
        clear hb9 HRO H8
        go_wp2_with fail
        generalize w9.alloc _ = W9 at *
        obtain ⟨_, _, hc9, _⟩ := H9.out.chief
        refine (until_p hc9).mono ?_
        rintro _ _ ⟨rfl, rfl⟩
        clear hc9
        go_wp2_with fail
        go_roundw
        case rel => exact ⟨t, i + 1, (max u ((t : Int) + 6)), ep, s6, rfl, rfl, rfl, by go_num, hq1, by omega, by omega, by omega, by omega, HS6, H9⟩
        case measure => simp [intOf]; omega
    · have b2 : (d.k == 2) = false := by rw [beq_eq_false_iff_ne]; exact k2
      clear k0 k1 k2
      go_wp2_with (first
        | (refine wpList_load_at (o := ⟨some 43, _, _, _, _, _⟩) rfl 48 (.tmp 42) rfl ob (off + i * 25) rfl (opcells d) _ hop Tryz.underlying48 rfl (by kernel_rfl) ?_)
        | (refine wpList_store_row (o := ⟨none, _, _, _, _, _⟩) rfl 48 (.tmp 11) (.tmp 43) rfl wr.heap.size (opcells d) rfl rfl 48 opz hzb (by kernel_rfl) rfl hone ?_; rw [setRow_alloc])
        | (refine wpList_store_row (o := ⟨none, _, _, _, _, _⟩) rfl 46 (.tmp 12) (.tmp 67) rfl (wr.heap.size + 1) (wbc 1 (1 + (k5 : Int)) ep) rfl rfl 46 (wbc 0 0 0) hzw (by kernel_rfl) rfl hone2 ?_; rw [setRow_alloc' _ _ _ _ _ HSZ1.out]; unfold wbc)
        | (refine wpList_load_row (o := ⟨some 73, _, _, _, _, _⟩) rfl 46 (.tmp 12) rfl (wr.heap.size + 1) rfl 46 (wbc 1 (1 + (k5 : Int)) ep) (0, 0) _ (HWB.out 1) Tryz.underlying46 rfl (by kernel_rfl) ?_))
      clear hop hzb hone hzw hone2 x0 x1 x2 x3 HSZ1 HWB HY0 hoc0
      generalize wr.alloc _ = W4 at *
      refine (tick_p HK0.out (by decide) HL.out ((t : Int) + (k3 : Int)) (by omega) (by omega)).mono ?_
      rintro _ w6 ⟨rfl, h6⟩
      have htk := ls_tick HS.out ((t : Int) + (k3 : Int))
      generalize tickS s ((t : Int) + (k3 : Int)) = s6 at *
      obtain ⟨hl1, hl2, hl3⟩ := htk
      rw [hep] at hl3
      have HS6 := Lib.hid hl1
      have H6 := Lib.hid h6
      have hun : decide (s6.un < u) = false := decide_eq_false (by omega)
      clear hl1 h6 HK0 HK1 HK HS
      rcases hl3 with hq1 | ⟨hq1, hq2⟩
      · obtain ⟨v, v', hc, hv, _, hl⟩ := H6.out.chief
        have HRO := Lib.hid (croster_p hc hv (by omega))
        clear hc hv hl
        rw [hq1] at HRO
        go_wp2_with fail
        refine HRO.out.mono ?_
        rintro _ w9 ⟨a9, c9, rfl, _, hb9⟩
        have H9 := Lib.hid ((H6.out.below hb9).below ((Below.refl _ w9).alloc (Nat.le_refl _) (.cells #[.int .i64 ep, .slice a9 s6.r.l.length c9, .int .i64 s6.r.nw] 24)))
        clear hb9 HRO H6
        go_wp2_with fail
        generalize w9.alloc _ = W9 at *
        obtain ⟨_, _, hc9, _⟩ := H9.out.chief
        refine (until_p hc9).mono ?_
        rintro _ _ ⟨rfl, rfl⟩
        clear hc9
        go_wp2_with fail
        go_roundw
        case rel => exact ⟨(t + k3), i + 1, u, ep, s6, by go_num, rfl, rfl, by go_num, hq1, by omega, by omega, by omega, by omega, HS6, H9⟩
        case measure => simp [intOf]; omega
      · have hne : ((ep + 1) != ep) = true := by rw [bne_iff_ne]; omega
        have hle : decide ((t : Int) + (k3 : Int) ≤ u) = false := decide_eq_false (by omega)
        obtain ⟨v, v', hc, hv, _, hl⟩ := H6.out.chief
        have HRO := Lib.hid (croster_p hc hv (by omega))
        clear hc hv hl
        rw [hq1] at HRO
        go_wp2_with fail
        refine HRO.out.mono ?_
        rintro _ w9 ⟨a9, c9, rfl, _, hb9⟩
        have H9 := Lib.hid ((H6.out.below hb9).below ((Below.refl _ w9).alloc (Nat.le_refl _) (.cells #[.int .i64 (ep + 1), .slice a9 s6.r.l.length c9, .int .i64 s6.r.nw] 24)))
        clear hb9 HRO H6
        go_wp2_with fail
        generalize w9.alloc _ = W9 at *
        obtain ⟨_, _, hc9, _⟩ := H9.out.chief
        refine (until_p hc9).mono ?_
        rintro _ _ ⟨rfl, rfl⟩
        clear hc9
        go_wp2_with fail
        go_roundw
        case rel => exact ⟨(t + k3), i + 1, u, (ep + 1), s6, by go_num, rfl, rfl, by go_num, hq1, by omega, by omega, by omega, by omega, HS6, H9⟩
        case measure => simp [intOf]; omega
end Go.Proofs.YtcnbgpgbeibakaaGreatDoor
