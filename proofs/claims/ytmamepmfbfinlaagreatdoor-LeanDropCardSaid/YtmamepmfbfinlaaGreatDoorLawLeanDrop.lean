/-
  LeanDrop answers true.
-/
import Derived.Test.YtmamepmfbfinlaaGreatDoorLnR
import Derived.BigQuiet
import Derived.Deep.RegionWith
namespace Go.Proofs.YtmamepmfbfinlaaGreatDoor
open Go.RowKit Go.Proofs.Cpl

set_option maxRecDepth 100000 in
set_option maxHeartbeats 16000000 in
theorem leanDrop_walk (v0 : Value) (len : Nat) (cs : Nat → Int) (b off cap : Nat) (a0 : Option Addr) (hv0 : v0 = .slice a0 len cap) (ha0 : 0 < len → a0 = some ⟨b, off, none⟩) (s : ByteArray) (n : Int) (w : World) (hB : BegunTrue14) (hlib : LibAt w)
    (hl : len ≤ 9223372036854775807) (hbl : 0 < len → b < w.heap.size) (hc : ∀ i, i < len → w.cell? ⟨b, off + i, none⟩ = some (.int .i64 (cs i))) :
    Calls Tryz.prog 4 #[v0, .string s, .int .i64 n] w fun r w' => r = .returned (.bool true) ∧ Below w.heap.size w w' := by
  subst hv0
  have HA : Hid (∀ W i, Below w.heap.size w W → i < len → a0 = some ⟨b, off, none⟩ ∧ W.cell? ⟨b, off + i, none⟩ = some (.int .i64 (cs i))) := Lib.hid (fun W i hW hi => ⟨ha0 (by omega), by rw [hW.cell (hbl (by omega))]; exact hc i hi⟩)
  have HBG := Lib.hid (hB _ hlib)
  have HCU := Lib.hid (cut_any s 40)
  have hS : (cutS s 40).size ≤ maxLen := by have := cutS_size s 40; unfold maxLen; omega
  generalize cutS s 40 = S at *
  have HS := Lib.hid hS
  obtain ⟨i0, hi, hz0, hz1, hz2⟩ := int_info
  clear hS hB hlib ha0 hbl hc
  go_enter Tryz.func4, Tryz.ntmps4
  go_wp2_with fail
  refine HBG.out.mono ?_
  rintro _ W1 ⟨rfl, hb1⟩
  go_wp2_with fail
  refine (HCU.out W1).mono ?_
  rintro _ _ ⟨rfl, rfl⟩
  have HR0 : Hid (Rb w W1.heap.size (W1.heap.size + 1) 1 0 (bldI cs 0) none 0 (W1.alloc (.cells #[.int .i64 1, .slice none 0 0, .int .i64 0] 24))) := Lib.hid ⟨RC.new W1 1 none 0 0 0 _, IOwn.nil _ _, Nat.lt_succ_self _, by simp, hb1.alloc hb1.size _, hb1.size⟩
  clear hb1 HBG HCU
  go_wp2_with fail
  generalize W1.alloc _ = W2 at *
  generalize W1.heap.size = BX at *
  go_loopw [9] (fun v9 wr => ∃ (i : Nat) (la : Option Addr) (lc : Nat), v9 = .int .i64 i ∧ i ≤ 5 ∧ Hid (Rb w BX (BX + 1) 1 0 (bldI cs i) la lc wr)) (fun v9 _ => 5 - (intOf v9).toNat)
  case atStart => exact ⟨0, none, 0, rfl, by omega, HR0⟩
  case round =>
    clear HR0
    obtain ⟨i, la, lc, rfl, hi5, HR⟩ := hrel
    obtain ⟨⟨c0, c1, c2⟩, f0, f1, f2⟩ := HR.out.box
    by_cases hgo : i < len ∧ i < 5
    case pos =>
      have t1 : (i : Int) < (len : Int) := by omega
      have t2 : (i : Int) < 5 := by omega
      have hil : i < len := hgo.1
      obtain ⟨rfl, x0⟩ := HA.out wr i HR.out.bl hgo.1
      obtain ⟨y1, hy1⟩ : ∃ y, (cs i).tmod 5 = y := ⟨_, rfl⟩
      have hyb : -4 ≤ y1 ∧ y1 ≤ 4 := by
        rw [← hy1]
        have g1 := Int.tmod_lt_of_pos (cs i) (show (0 : Int) < 5 by decide)
        have g2 := Int.lt_tmod_of_pos (cs i) (show (0 : Int) < 5 by decide)
        omega
      have hwr : IntKind.i64.wrap (y1 + 5) = y1 + 5 := IntWalk.i64_in _ (by omega)
      obtain ⟨z, hz⟩ : ∃ z, (y1 + 5).tmod 5 = z := ⟨_, rfl⟩
      have hzb : 0 ≤ z ∧ z ≤ 4 := by
        rw [← hz]
        have g1 := Int.tmod_lt_of_pos (y1 + 5) (show (0 : Int) < 5 by decide)
        have g2 := Int.tmod_nonneg (a := y1 + 5) 5 (by omega)
        omega
      obtain ⟨q, hq⟩ : ∃ q, 1 + z = q := ⟨_, rfl⟩
      have hwn : IntKind.i64.wrap (1 + z) = q := by rw [hq]; exact IntWalk.i64_in _ (by omega)
      have HQ : Hid (digI (cs i) = q) := Lib.hid (by unfold digI; rw [hy1, hz, hq])
      have HSP := spot_p 1 0 q _ (bldI cs i) wr HR.out.own.at (by have := bld_len cs i; omega)
      have hC5 := bld_len cs i
      cases hh : hasI (bldI cs i) q with
      | true =>
        have hge : ¬ ixI (bldI cs i) q < 0 := by
          unfold hasI at hh
          have := of_decide_eq_true hh
          omega
        have HN : Hid (bldI cs (i + 1) = bldI cs i) := Lib.hid (bld_yes (by rw [HQ.out]; exact hh))
        generalize ixI (bldI cs i) q = j at *
        generalize bldI cs i = L at *
        replace HSP := Lib.hid HSP
        clear hh hgo hyb hzb hq
        go_wp2_with fail
        refine HSP.out.mono ?_
        rintro _ w2 ⟨rfl, hb2⟩
        have H2 := Lib.hid (HR.out.below hb2)
        clear hb2 c0 c1 c2 f0 f1 f2 x0 hy1 hz
        go_wp2_with fail
        go_roundw
        case rel => exact ⟨i + 1, la, lc, by go_num, by omega, by rw [HN.out]; exact H2⟩
        case measure => simp [intOf]; omega
      | false =>
        have hge : ixI (bldI cs i) q < 0 := by
          unfold hasI at hh
          have := of_decide_eq_false hh
          omega
        have HN : Hid (bldI cs (i + 1) = bldI cs i ++ [q]) := Lib.hid (by rw [bld_no (by rw [HQ.out]; exact hh), HQ.out])
        generalize ixI (bldI cs i) q = j at *
        generalize bldI cs i = L at *
        replace HSP := Lib.hid HSP
        clear hh hgo hyb hzb hq
        go_wp2_with fail
        refine HSP.out.mono ?_
        rintro _ w2 ⟨rfl, hb2⟩
        have H2 := Lib.hid (HR.out.below hb2)
        clear hb2 c0 c1 c2 f0 f1 f2 x0 hy1 hz HSP HR
        obtain ⟨⟨c0, c1, c2⟩, f0, f1, f2⟩ := H2.out.box
        have HOW : Hid ((w2.alloc (.cells #[.int .i64 q] 3)).ownsRow (BX + 1) 3 1 (.slice la L.length lc) L.length (icells L)) := Lib.hid (H2.out.own.below ((Below.refl _ _).alloc (Nat.le_refl _) _))
        have HGE : Hid (BX + 1 ≤ (w2.alloc (.cells #[.int .i64 q] 3)).heap.size) := Lib.hid (by have := H2.out.dl; simp; omega)
        have HNW := Lib.hid (int_new w2 q)
        go_wp2_with (at_builtin; refine wpList_append_own_at _ rfl (.tmp 44) (.tmp 46) 22 rfl (BX + 1) 3 i0 _ 1 8 Tryz.underlying22 hi hz0 hz1 hz2 rfl (by decide) (.slice la L.length lc) L.length (icells L) rfl HOW.out ⟨w2.heap.size, 0, none⟩ 1 1 (icells [q]) rfl rfl HNW.out (icells_one [q]) (by unfold maxLen; omega) (by omega) HGE.out ?_)
        intro v' w3 hown3 hgrow3 _ hloc3
        obtain ⟨hc3, la3, lc3, rfl, hE, _⟩ := H2.out.step hown3 hgrow3
        generalize L ++ [q] = M at *
        have HE := Lib.hid hE
        clear hown3 hgrow3 hloc3 hE c0 c1 c2 f0 f1 f2 HOW HGE HNW
        obtain ⟨⟨c0, c1, c2⟩, f0, f1, f2⟩ := hc3
        go_wp2_with fail
        go_roundw
        case rel => exact ⟨i + 1, la3, lc3, by go_num, by omega, by rw [HN.out]; exact HE⟩
        case measure => simp [intOf]; omega
    case neg =>
      have HMA : Hid (1 ≤ (bldI cs i).length → mayR ⟨1, bldI cs i, 0⟩ = true) := Lib.hid (bld_may ⟨by omega, by omega⟩)
      have HOK := Lib.hid (bld_ok cs i)
      have hC5 := bld_len cs i
      generalize bldI cs i = L at *
      have hsp : (decide ((i : Int) < (len : Int)) = false ∧ ¬ (i : Int) < (len : Int)) ∨ ((i : Int) < (len : Int) ∧ decide ((i : Int) < 5) = false ∧ ¬ (i : Int) < 5) := by
        by_cases h1 : i < len
        · exact .inr ⟨by omega, decide_eq_false (by omega), by omega⟩
        · exact .inl ⟨decide_eq_false (by omega), by omega⟩
      clear hgo
      by_cases h2 : L.length < 2
      · have h2z : (L.length : Int) < 2 := by omega
        clear h2
        rcases hsp with ⟨t1, t3⟩ | ⟨t1, t2, t3⟩
        all_goals
          go_wp2_with fail
          go_ret
          exact ⟨rfl, HR.out.bl⟩
      have h2z : ¬ (L.length : Int) < 2 := by omega
      obtain ⟨y, hy⟩ : ∃ y, n.tmod (L.length : Int) = y := ⟨_, rfl⟩
      have hyb : -(L.length : Int) < y ∧ y < (L.length : Int) := by
        rw [← hy]
        have g1 := Int.tmod_lt_of_pos n (show (0 : Int) < (L.length : Int) by omega)
        have g2 := Int.lt_tmod_of_pos n (show (0 : Int) < (L.length : Int) by omega)
        omega
      have hwy : IntKind.i64.wrap (y + (L.length : Int)) = y + (L.length : Int) := IntWalk.i64_in _ (by omega)
      obtain ⟨z, hz⟩ : ∃ z, (y + (L.length : Int)).tmod (L.length : Int) = z := ⟨_, rfl⟩
      have hzb : 0 ≤ z ∧ z < (L.length : Int) := by
        rw [← hz]
        have g1 := Int.tmod_lt_of_pos (y + (L.length : Int)) (show (0 : Int) < (L.length : Int) by omega)
        have g2 := Int.tmod_nonneg (a := y + (L.length : Int)) (L.length : Int) (by omega)
        omega
      obtain ⟨k, rfl⟩ : ∃ k : Nat, z = (k : Int) := ⟨z.toNat, by omega⟩
      have hkl : k < L.length := by omega
      have hkz : (k : Int) < (L.length : Int) := by omega
      obtain ⟨x, hx⟩ : ∃ x, L[k]? = some x := ⟨_, List.getElem?_eq_getElem hkl⟩
      obtain ⟨g, o, rfl, x0⟩ := HR.out.own.at.get hx
      have HMY := HMA.out (by omega)
      have HD := Lib.hid (drop_at HMY hx (by omega))
      have HPD : Hid (∀ zz : Int × Int, _) := Lib.hid (fun zz => pick_drop zz HOK.out.1 HOK.out.2 (by omega) hx)
      have hnz : ¬ (L.length : Int) = 0 := by omega
      have hnzb : ((L.length : Int) == 0) = false := by rw [beq_eq_false_iff_ne]; omega
      clear h2 hyb hzb HMA hkl
      rcases hsp with ⟨t1, t3⟩ | ⟨t1, t2, t3⟩
      all_goals
        go_wp2_with fail
        go_quiet (fail)
        have H3 := Lib.hid (HR.out.below (below_drewN (Below.refl wr.heap.size wr) nq))
        clear c0 c1 c2 f0 f1 f2 x0 hy hwy hz hkz hnz hnzb h2z t1 t3
        try clear t2
        generalize wr.drewN nq = V3 at *
        obtain ⟨⟨c0, c1, c2⟩, _⟩ := H3.out.box
        go_wp2_with fail
        refine (rdropn_p 1 0 x _ L V3 H3.out.own.at (by omega)).mono ?_
        rw [HD.out.1]
        rintro _ V4 ⟨a4, c4, rfl, ho, hy⟩
        dsimp only at ho ⊢
        generalize L.take k ++ L.drop (k + 1) = M at *
        have hb4 : Below V3.heap.size V3 (V4.alloc (.cells #[.int .i64 2, .slice a4 M.length c4, .int .i64 0] 24)) := hy.alloc hy.size _
        have H5 := Lib.hid (H3.out.below hb4)
        have HX : Hid (RC (V4.alloc (.cells #[.int .i64 2, .slice a4 M.length c4, .int .i64 0] 24)) V4.heap.size 2 (.slice a4 M.length c4) 0 ∧ IsAt (V4.alloc (.cells #[.int .i64 2, .slice a4 M.length c4, .int .i64 0] 24)) (.slice a4 M.length c4) M) := Lib.hid ⟨RC.new V4 2 a4 M.length c4 0 _, (ho.below ((Below.refl _ _).alloc (Nat.le_refl _) _)).at⟩
        clear hb4 ho hy c0 c1 c2
        go_wp2_with fail
        generalize V4.alloc (.cells #[.int .i64 2, .slice a4 M.length c4, .int .i64 0] 24) = V5 at *
        generalize V4.heap.size = BY at *
        have hM5 : M.length ≤ 5 := (mayR_len HD.out.2).2.2.2
        have hpd := HPD.out (mkI S)
        have p1 := fun V (h : IsAt V (.slice (some ⟨g, o, none⟩) L.length lc) L) => Pick_p 1 0 _ L S HS.out V h (by omega) (cho_may HMY)
        have p2 := fun V (h : IsAt V (.slice a4 M.length c4) M) => Pick_p 2 0 _ M S HS.out V h (by omega) (cho_may HD.out.2)
        generalize pickI (mkI S) L 0 = P at *
        generalize pickI (mkI S) M 0 = Q at *
        have y1 : Hid (∀ d os, Calls Tryz.prog 13 #[.agg #[.int .i64 1, .slice (some ⟨g, o, none⟩) L.length lc, .int .i64 0], .string S] (Go.Sort.grow (redrawn V5 d) os) fun e w'' => e = .returned (.int .i64 P) ∧ ∃ p : Regrown, w'' = Go.Sort.grow (redrawn V5 p.d) p.os) := Lib.hid (fun d os => Calls.regrown_of (p1 _ (H5.out.own.at.below (below_regrown V5 d os))))
        have y2 : Hid (∀ d os, Calls Tryz.prog 13 #[.agg #[.int .i64 2, .slice a4 M.length c4, .int .i64 0], .string S] (Go.Sort.grow (redrawn V5 d) os) fun e w'' => e = .returned (.int .i64 Q) ∧ ∃ p : Regrown, w'' = Go.Sort.grow (redrawn V5 p.d) p.os) := Lib.hid (fun d os => Calls.regrown_of (p2 _ (HX.out.2.below (below_regrown V5 d os))))
        obtain ⟨⟨c0, c1, c2⟩, _⟩ := H5.out.box
        obtain ⟨⟨d0, d1, d2⟩, _⟩ := HX.out.1
        have q0 := cell_regrown c0
        have q1 := cell_regrown c1
        have q2 := cell_regrown c2
        have r0 := cell_regrown d0
        have r1 := cell_regrown d1
        have r2 := cell_regrown d2
        clear c0 c1 c2 d0 d1 d2 p1 p2
        have HPQ := Lib.hid hpd
        clear hpd
        refine wp_region_quiet_below (by kernel_rfl) (by kernel_rfl) ?_
        repeat (quiet_step (first | (go_at_call_of 13 (Value.slice a4 M.length c4); exact y2.out _ _) | (go_at_call 13; exact y1.out _ _)))
        refine wpQuiet_nil ?_
        intro _ hw'
        obtain ⟨⟨dq, osq⟩, hw''⟩ := hw'
        subst hw''
        have HE := Lib.hid (H5.out.bl.trans ((below_regrown V5 dq osq).mono H5.out.bl.size))
        clear q0 q1 q2 r0 r1 r2 y1 y2
        generalize Go.Sort.grow (redrawn V5 dq) osq = V6 at *
        have hQx : (Q != x) = true := by rw [bne_iff_ne]; exact HPQ.out.1
        by_cases hpq : P = Q
        · subst hpq
          go_wp2_with fail
          go_ret
          exact ⟨rfl, HE.out⟩
        · have hpqb : (P == Q) = false := by rw [beq_eq_false_iff_ne]; exact hpq
          obtain rfl : P = x := by
            rcases HPQ.out.2 with h | h
            · exact absurd h hpq
            · exact h
          clear hpq
          go_wp2_with fail
          go_ret
          exact ⟨rfl, HE.out⟩

end Go.Proofs.YtmamepmfbfinlaaGreatDoor
