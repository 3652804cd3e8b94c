/-
  Contracts of the program, and what they rest on.
-/
import Derived.Test.YtcnbgpgbeibakaaGreatDoorM05
import Derived.Test.YtcnbgpgbeibakaaGreatDoorRRosF
import Derived.Test.YtcnbgpgbeibakaaGreatDoorRRosG
import Derived.Test.YtcnbgpgbeibakaaGreatDoorRChC
import Derived.Test.YtcnbgpgbeibakaaGreatDoorRChJ
import Derived.Test.YtcnbgpgbeibakaaGreatDoorOpA
import Derived.Test.YtcnbgpgbeibakaaGreatDoorChP
import Derived.Test.YtcnbgpgbeibakaaGreatDoorLdR
import Derived.Test.YtcnbgpgbeibakaaGreatDoorLawChiefLasts
namespace Go.Proofs.YtcnbgpgbeibakaaGreatDoor
open Go.RowKit Go.Maps Go.Proofs.MapD Go.Proofs.Chest
def HdR (r : Ro) : Prop := r.l = [1] ∨ ∃ n, r.l = [1, n] ∧ r.nw = n
def HdS (s : Cs) : Prop := HdR s.r ∧ (s.nx = Ro.zero ∨ HdR s.nx)
theorem one_dup {e nw n : Int} (h : mayR ⟨e, [1, n], nw⟩ = true) : n ≠ 1 := by
  rintro rfl
  have h1 := (mayR_ns (e := e) (nw := nw) h).1
  exact absurd h1 (by decide)
theorem HdR.add {r : Ro} (h : HdR r) (n : Int) : (addR r n).1 = Ro.zero ∨ HdR (addR r n).1 := by
  rcases addR_cases r n with ⟨h1, h2, h3, h4, _⟩ | h1
  · rw [h1]
    refine .inr ?_
    rcases h with h | ⟨m, h, h5⟩
    · exact .inr ⟨n, by rw [h]; rfl, rfl⟩
    · have := may_mem h3 (n := m) (by rw [h]; simp)
      omega
  · rw [h1]
    exact .inl rfl
theorem HdR.drop {r : Ro} (h : HdR r) {m : Int} (hm : m ∈ r.l) : (dropR r m).1 = Ro.zero ∨ HdR (dropR r m).1 := by
  obtain ⟨e, l, nw⟩ := r
  rcases h with h | ⟨n, h, h5⟩
  · dsimp only at h hm
    subst h
    obtain rfl : m = 1 := by simpa using hm
    refine .inl ?_
    unfold dropR
    rw [show ixN [1] 1 = some 0 from rfl]
    dsimp only
    cases mayR ⟨e, [1], nw⟩ with
    | false => rfl
    | true =>
      rw [if_pos rfl]
      unfold chkR
      rw [if_neg (by
        intro hh
        have := (mayR_ns hh).1
        exact absurd this (by decide))]
  · dsimp only at h hm h5
    subst h h5
    unfold dropR
    cases hq : mayR ⟨e, [1, nw], nw⟩ with
    | false =>
      refine .inl ?_
      split <;> rfl
    | true =>
      have hn := one_dup hq
      rcases List.mem_cons.1 hm with rfl | hm
      · rw [show ixN [1, nw] 1 = some 0 from rfl]
        refine .inl ?_
        dsimp only
        rw [if_pos rfl]
        unfold chkR
        rw [if_neg (by
          intro hh
          rw [if_neg hn] at hh
          have h6 := (mayR_ns hh).2
          have h0 := may_mem hq (n := nw) (by simp)
          unfold mayW at h6
          rw [decide_eq_false (show ¬ nw = 0 by omega)] at h6
          simp at h6)]
      · obtain rfl : m = nw := by simpa using hm
        have h7 : ixN [1, m] m = some 1 := by
          have : ((1 : Int) == m) = false := by rw [beq_eq_false_iff_ne]; exact fun e => hn e.symm
          simp [ixN, List.findIdx?_cons, this]
        rw [h7]
        dsimp only
        rw [if_pos rfl, if_pos rfl]
        rcases chkR_cases ⟨e + 1, List.take 1 [1, m] ++ List.drop (1 + 1) [1, m], 0⟩ with ⟨h8, _⟩ | h8
        · rw [h8]
          exact .inr (.inl rfl)
        · rw [h8]
          exact .inl rfl
theorem HdS.tick {s : Cs} (h : HdS s) (now : Int) : HdS (tickS s now) := by
  unfold tickS
  split
  · split
    · rename_i h1 _
      rcases h.2 with h2 | h2
      · unfold Cs.chg at h1
        rw [h2] at h1
        cases h1
      · exact ⟨h2, .inl rfl⟩
    · exact h
  · unfold findS
    split
    · exact ⟨h.1, h.1.add s.asks⟩
    · rename_i h1
      exact ⟨h.1, h.1.drop (silent_mem s.hd now s.r.l h1)⟩
theorem HdS.beat {s : Cs} (h : HdS s) (n now : Int) : HdS (beatS s n now).1 := by
  unfold beatS
  split
  · split
    · exact h
    · exact h
  · exact h
theorem HdS.step {s : Cs} (h : HdS s) (n now : Int) : HdS (stepS s 1 n 0 0 now).1 := by
  unfold stepS
  split
  · exact h
  · rw [if_pos rfl]
    exact h.beat n now
theorem HdS.spot {s : Cs} (h : HdS s) : ixI s.r.l 1 = 0 := by
  rcases h.1 with h1 | ⟨n, h1, _⟩
  · rw [h1]
    rfl
  · rw [h1]
    rfl
theorem mod_six (n : Int) : ∃ k : Nat, (n.tmod 6 + 6).tmod 6 = (k : Int) ∧ k < 6 ∧ -6 < n.tmod 6 ∧ n.tmod 6 < 6 := by
  have g1 := Int.tmod_lt_of_pos n (show (0 : Int) < 6 by decide)
  have g2 := Int.lt_tmod_of_pos n (show (0 : Int) < 6 by decide)
  generalize n.tmod 6 = r at *
  have g3 := Int.tmod_lt_of_pos (r + 6) (show (0 : Int) < 6 by decide)
  have g4 := Int.tmod_nonneg 6 (show (0 : Int) ≤ r + 6 by omega)
  exact ⟨((r + 6).tmod 6).toNat, by omega, by omega, by omega, by omega⟩
theorem mod_five (n : Int) : ∃ k : Nat, (n.tmod 5 + 5).tmod 5 = (k : Int) ∧ k < 5 ∧ -5 < n.tmod 5 ∧ n.tmod 5 < 5 := by
  have g1 := Int.tmod_lt_of_pos n (show (0 : Int) < 5 by decide)
  have g2 := Int.lt_tmod_of_pos n (show (0 : Int) < 5 by decide)
  generalize n.tmod 5 = r at *
  have g3 := Int.tmod_lt_of_pos (r + 5) (show (0 : Int) < 5 by decide)
  have g4 := Int.tmod_nonneg 5 (show (0 : Int) ≤ r + 5 by omega)
  exact ⟨((r + 5).tmod 5).toNat, by omega, by omega, by omega, by omega⟩
set_option maxRecDepth 100000 in
set_option maxHeartbeats 16000000 in
theorem chiefLast_walk (v0 : Value) (len : Nat) (D : Nat → OpD) (ob off cap : Nat) (a0 : Option Addr) (hv0 : v0 = .slice a0 len cap) (ha0 : 0 < len → a0 = some ⟨ob, off, none⟩) (w : World) (hB : BegunTrue10) (hlib : LibAt w)
    (hlen : len ≤ 9223372036854775807) (hob : 0 < len → ob < w.heap.size) (hD : ∀ i, i < len → OpAt w ob (off + i * 25) (D i)) :
    Calls Tryz.prog 6 #[v0] w fun e w' => e = .returned (.bool true) ∧ Below w.heap.size w w' := by
  subst hv0
  have HB := Lib.hid (hB w hlib)
  have HL := Lib.hid hlib
  have HD := Lib.hid hD
  have HA0 := Lib.hid ha0
  have HOB := Lib.hid hob
  clear hB hlib hD ha0 hob
  go_enter Tryz.func6, Tryz.ntmps6
  go_wp2_with fail
  refine HB.out.mono ?_
  rintro _ w1 ⟨rfl, hb1⟩
  have H1 := Lib.hid ((Sp.start w).below hb1)
  clear hb1 HB
  go_wp2_with fail
  refine (s_new 1048576 H1.out).mono ?_
  rintro _ w2 ⟨c, rfl, h2⟩
  rw [r_new] at h2
  have hi2 := isat_one w2 1
  have H2 := Lib.hid ((h2.ixNew ((Below.refl _ _).alloc (Nat.le_refl _) _) hi2 (by intro g hg; cases hg; exact Nat.le_refl _)).swap)
  clear h2 hi2 H1
  go_wp2_with fail
  generalize w2.alloc _ = W2 at *
  refine (open_new H2.out (by decide) (by kernel_rfl) HL.out 0).mono ?_
  rintro _ w3 ⟨x, j, rfl, h3⟩
  have H3 : Hid (CK w w3 x j c 1048576 (beginS ⟨1, [1], 0⟩ 0 0) [ix (.slice (some ⟨w2.heap.size, 0, none⟩) 1 1) [1]]) := Lib.hid h3
  have HH3 : Hid (HdS (beginS ⟨1, [1], 0⟩ 0 0)) := Lib.hid ⟨.inl rfl, .inl rfl⟩
  clear h3 H2
  generalize ix (.slice (some ⟨w2.heap.size, 0, none⟩) 1 1) [1] = I3 at *
  go_wp2_with fail
  go_loopw [6, 7] (fun v6 v7 wr => ∃ (t i : Nat) (s : Cs), v6 = .int .i64 (t : Int) ∧ v7 = .int .i64 (i : Int) ∧ i ≤ len ∧ i ≤ 60 ∧ t ≤ 6 * i ∧ Hid (HdS s) ∧ Hid (CK w wr x j c 1048576 s [I3])) (fun _ v7 _ => len - (intOf v7).toNat)
  case atStart => exact ⟨0, 0, _, rfl, rfl, Nat.zero_le _, Nat.zero_le _, Nat.zero_le _, HH3, H3⟩
  case round =>
    obtain ⟨t, i, s, rfl, rfl, hi, hi60, ht, HH, HK⟩ := hrel
    clear H3 HH3
    by_cases hil : i < len
    case neg =>
      go_wp2_with fail
      go_ret
      exact ⟨rfl, HK.out.bl⟩
    by_cases hi6 : i < 60
    case neg =>
      go_wp2_with fail
      go_ret
      exact ⟨rfl, HK.out.bl⟩
    obtain rfl := HA0.out (by omega)
    have hoblt := HOB.out (by omega)
    have hsz := HK.out.bl.size
    have hop := (HD.out i hil).below HK.out.bl hoblt
    generalize D i = d at *
    have HK1 := Lib.hid (HK.out.below ((Below.refl _ wr).alloc (Nat.le_refl _) (.cells (opcells d) 48)))
    obtain ⟨x0, x1, x2, x3⟩ := op_cells (heap_alloc_new wr (.cells (opcells d) 48))
    obtain ⟨k6, hk6, hk6l, hk6a, hk6b⟩ := mod_six d.n
    obtain ⟨k5, hk5, hk5l, hk5a, hk5b⟩ := mod_five d.f
    have hzb := heap_alloc_new wr (.cells opz 48)
    have hone := op_one d
    clear hoblt hsz
    by_cases hk3 : d.k < 3
    · have hk3d : decide (d.k < 3) = true := decide_eq_true hk3
      clear hk3
      go_wp2_with (first | (refine wpList_load_at (o := ⟨some 35, _, _, _, _, _⟩) rfl 48 (.tmp 34) rfl ob (off + i * 25) rfl (opcells d) _ hop Tryz.underlying48 rfl (by kernel_rfl) ?_) | (refine wpList_store_row (o := ⟨none, _, _, _, _, _⟩) rfl 48 (.tmp 8) (.tmp 35) rfl wr.heap.size (opcells d) rfl rfl 48 opz hzb (by kernel_rfl) rfl hone ?_; rw [setRow_alloc]))
      clear hop hzb hone
      generalize wr.alloc _ = W1 at *
      refine (step_p HK1.out (by decide) HL.out 1 (1 + (k5 : Int)) 0 0 Wq.zero (t : Int) (by omega) (by omega)).mono ?_
      rintro _ w6 ⟨u6, rfl, h6⟩
      have h6 := h6.ck
      have hh6 := HH.out.step (1 + (k5 : Int)) (t : Int)
      generalize (stepS s 1 (1 + (k5 : Int)) 0 0 (t : Int)).1 = s6 at *
      have HR : Hid (CK w w6 x j c 1048576 s6 [I3] ∧ HdS s6) := Lib.hid ⟨h6, hh6⟩
      clear h6 hh6 HK1
      obtain ⟨v, v', hc, hv, hm, hl⟩ := HR.out.1.chief
      have HRO := Lib.hid (croster_p hc hv (by omega))
      have HM : Hid (mayR ⟨s6.r.ep, s6.r.l, s6.r.nw⟩ = true ∧ s6.r.l.length ≤ 5) := Lib.hid ⟨hm, hl⟩
      have HSP := Lib.hid HR.out.2.spot
      clear hc hv hm hl
      generalize s6.r.l = l6 at *
      generalize s6.r.ep = e6 at *
      generalize s6.r.nw = nw6 at *
      go_wp2_with fail
      refine HRO.out.mono ?_
      rintro _ w7 ⟨a7, c7, rfl, ho7, hb7⟩
      have H7 := Lib.hid (HR.out.1.below hb7)
      have HO7 := Lib.hid ho7.at
      clear ho7 hb7 HRO
      have HBB := Lib.hid (((Below.refl _ w7).alloc (Nat.le_refl _) (.cells #[.int .i64 e6, .slice a7 l6.length c7, .int .i64 nw6] 24)))
      have HRB := Lib.hid (RC.new w7 e6 a7 l6.length c7 nw6 24)
      have HO8 := Lib.hid (HO7.out.below HBB.out)
      have H8 := Lib.hid (H7.out.below HBB.out)
      clear H7 HO7 HBB
      go_wp2_with fail
      generalize w7.alloc _ = W8 at *
      have hs8 := HSP.out
      refine (spot_p e6 nw6 1 _ l6 W8 HO8.out (by have := HM.out.2; omega)).mono ?_
      rw [hs8]
      rintro _ w9 ⟨rfl, hb9⟩
      have H9 := Lib.hid (H8.out.below hb9)
      have HO9 := Lib.hid (HO8.out.below hb9)
      obtain ⟨⟨p0, p1, p2⟩, _⟩ := HRB.out.below hb9
      clear hs8 hb9 HRB H8 HO8
      go_wp2_with fail
      refine (rmayr_p e6 nw6 _ l6 w9 HO9.out (by have := HM.out.2; omega)).mono ?_
      rw [HM.out.1]
      rintro _ w10 ⟨rfl, hb10⟩
      have H10 := Lib.hid (H9.out.below hb10)
      have H6D := Lib.hid HR.out.2
      clear hb10 H9 HO9 p0 p1 p2 HR
      go_wp2_with fail
      go_roundw
      case rel => exact ⟨t, i + 1, s6, rfl, by go_num, by omega, by omega, by omega, H6D, H10⟩
      case measure => simp [intOf]; omega
    · have hk3d : decide (d.k < 3) = false := decide_eq_false hk3
      clear hk3
      go_wp2_with (first | (refine wpList_load_at (o := ⟨some 35, _, _, _, _, _⟩) rfl 48 (.tmp 34) rfl ob (off + i * 25) rfl (opcells d) _ hop Tryz.underlying48 rfl (by kernel_rfl) ?_) | (refine wpList_store_row (o := ⟨none, _, _, _, _, _⟩) rfl 48 (.tmp 8) (.tmp 35) rfl wr.heap.size (opcells d) rfl rfl 48 opz hzb (by kernel_rfl) rfl hone ?_; rw [setRow_alloc]))
      clear hop hzb hone
      generalize wr.alloc _ = W1 at *
      refine (tick_p HK1.out (by decide) HL.out ((t : Int) + (k6 : Int)) (by omega) (by omega)).mono ?_
      rintro _ w6 ⟨rfl, h6⟩
      have hh6 := HH.out.tick ((t : Int) + (k6 : Int))
      generalize tickS s ((t : Int) + (k6 : Int)) = s6 at *
      have HR : Hid (CK w w6 x j c 1048576 s6 [I3] ∧ HdS s6) := Lib.hid ⟨h6, hh6⟩
      clear h6 hh6 HK1
      obtain ⟨v, v', hc, hv, hm, hl⟩ := HR.out.1.chief
      have HRO := Lib.hid (croster_p hc hv (by omega))
      have HM : Hid (mayR ⟨s6.r.ep, s6.r.l, s6.r.nw⟩ = true ∧ s6.r.l.length ≤ 5) := Lib.hid ⟨hm, hl⟩
      have HSP := Lib.hid HR.out.2.spot
      clear hc hv hm hl
      generalize s6.r.l = l6 at *
      generalize s6.r.ep = e6 at *
      generalize s6.r.nw = nw6 at *
      go_wp2_with fail
      refine HRO.out.mono ?_
      rintro _ w7 ⟨a7, c7, rfl, ho7, hb7⟩
      have H7 := Lib.hid (HR.out.1.below hb7)
      have HO7 := Lib.hid ho7.at
      clear ho7 hb7 HRO
      have HBB := Lib.hid (((Below.refl _ w7).alloc (Nat.le_refl _) (.cells #[.int .i64 e6, .slice a7 l6.length c7, .int .i64 nw6] 24)))
      have HRB := Lib.hid (RC.new w7 e6 a7 l6.length c7 nw6 24)
      have HO8 := Lib.hid (HO7.out.below HBB.out)
      have H8 := Lib.hid (H7.out.below HBB.out)
      clear H7 HO7 HBB
      go_wp2_with fail
      generalize w7.alloc _ = W8 at *
      have hs8 := HSP.out
      refine (spot_p e6 nw6 1 _ l6 W8 HO8.out (by have := HM.out.2; omega)).mono ?_
      rw [hs8]
      rintro _ w9 ⟨rfl, hb9⟩
      have H9 := Lib.hid (H8.out.below hb9)
      have HO9 := Lib.hid (HO8.out.below hb9)
      obtain ⟨⟨p0, p1, p2⟩, _⟩ := HRB.out.below hb9
      clear hs8 hb9 HRB H8 HO8
      go_wp2_with fail
      refine (rmayr_p e6 nw6 _ l6 w9 HO9.out (by have := HM.out.2; omega)).mono ?_
      rw [HM.out.1]
      rintro _ w10 ⟨rfl, hb10⟩
      have H10 := Lib.hid (H9.out.below hb10)
      have H6D := Lib.hid HR.out.2
      clear hb10 H9 HO9 p0 p1 p2 HR
      go_wp2_with fail
      go_roundw
      case rel => exact ⟨t + k6, i + 1, s6, by go_num, by go_num, by omega, by omega, by omega, H6D, H10⟩
      case measure => simp [intOf]; omega
end Go.Proofs.YtcnbgpgbeibakaaGreatDoor
