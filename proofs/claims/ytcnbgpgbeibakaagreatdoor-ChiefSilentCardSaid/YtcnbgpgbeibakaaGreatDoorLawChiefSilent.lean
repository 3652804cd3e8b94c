/-
  Contracts of the program, and what they rest on.
-/
import Derived.Test.YtcnbgpgbeibakaaGreatDoorRRosF
import Derived.Test.YtcnbgpgbeibakaaGreatDoorRChJ
import Derived.Test.YtcnbgpgbeibakaaGreatDoorChP
namespace Go.Proofs.YtcnbgpgbeibakaaGreatDoor
open Go.RowKit Go.Maps Go.Proofs.MapD Go.Proofs.Chest
def slB (who now : Int) (s : Cs) (i : Int) : Cs := if i = who then s else (stepS s 1 i 0 s.r.ep now).1
def slBs (who now : Int) (s : Cs) : Nat → Cs
  | 0 => s
  | k + 1 => slB who now (slBs who now s k) ((k : Int) + 1)
def slDay (n : Nat) (who now : Int) (s : Cs) : Cs := slBs who now (tickS s now) n
def upTo : Nat → List Int
  | 0 => []
  | k + 1 => upTo k ++ [(k : Int) + 1]
def slDays (n : Nat) (who : Int) : Nat → Cs
  | 0 => beginS ⟨1, upTo n, 0⟩ 0 0
  | t + 1 => slDay n who ((t : Int) + 1) (slDays n who t)
def slGone (who : Int) (s : Cs) : Bool := decide (ixI s.r.l who < 0)
def slOk (n : Nat) (who time : Int) (s : Cs) : Bool :=
  if n = 1 then (if !slGone who s then s.lost == decide (9 < time) else false)
  else if (if slGone who s then true else s.chg) == decide (9 < time) then (if (if time < 17 then true else slGone who s) then !s.lost else false) else false
def slChk (n : Nat) (who : Int) : Nat → Cs × Bool
  | 0 => (beginS ⟨1, upTo n, 0⟩ 0 0, slOk n who 0 (beginS ⟨1, upTo n, 0⟩ 0 0))
  | t + 1 => let p := slChk n who t; let s := slDay n who ((t : Int) + 1) p.1; (s, p.2 && slOk n who ((t : Int) + 1) s)
theorem slChk_days (n : Nat) (who : Int) : ∀ t, (slChk n who t).1 = slDays n who t
  | 0 => rfl
  | t + 1 => by simp only [slChk, slDays, slChk_days n who t]
theorem slChk_all (n : Nat) (who : Int) : ∀ t k, k ≤ t → (slChk n who t).2 = true → slOk n who (k : Int) (slDays n who k) = true
  | 0, k, hk, h => by
    obtain rfl : k = 0 := by omega
    exact h
  | t + 1, k, hk, h => by
    have h' : ((slChk n who t).2 && slOk n who ((t : Int) + 1) (slDay n who ((t : Int) + 1) (slChk n who t).1)) = true := h
    rw [Bool.and_eq_true] at h'
    by_cases e : k = t + 1
    · subst e
      rw [slChk_days] at h'
      exact h'.2
    · exact slChk_all n who t k (by omega) h'.1
theorem slAll : ((List.range 5).all fun n => (List.range 5).all fun m => (slChk (n + 1) ((m : Int) + 1) 40).2 || decide (n < m)) = true := by kernel_rfl
theorem sl_ok {n m t : Nat} (hn : 1 ≤ n ∧ n ≤ 5) (hm : 1 ≤ m ∧ m ≤ n) (ht : t ≤ 40) : slOk n (m : Int) (t : Int) (slDays n (m : Int) t) = true := by
  have h1 := List.all_eq_true.1 slAll (n - 1) (List.mem_range.2 (by omega))
  have h2 := List.all_eq_true.1 h1 (m - 1) (List.mem_range.2 (by omega))
  rw [Bool.or_eq_true] at h2
  rw [show n - 1 + 1 = n by omega, show (((m - 1 : Nat) : Int) + 1) = (m : Int) by omega] at h2
  rcases h2 with h2 | h2
  · exact slChk_all n (m : Int) 40 t ht h2
  · have := of_decide_eq_true h2
    omega
theorem upTo_may (n : Nat) (h : 1 ≤ n ∧ n ≤ 5) : mayR ⟨1, upTo n, 0⟩ = true := by
  obtain rfl | rfl | rfl | rfl | rfl : n = 1 ∨ n = 2 ∨ n = 3 ∨ n = 4 ∨ n = 5 := by omega
  all_goals kernel_rfl
theorem upTo_len : ∀ n, (upTo n).length = n
  | 0 => rfl
  | n + 1 => by simp [upTo, upTo_len n]
theorem slBs_succ (who now : Int) (s : Cs) (k : Nat) : slBs who now s (k + 1) = slB who now (slBs who now s k) ((k : Int) + 1) := rfl
set_option maxRecDepth 100000 in
set_option maxHeartbeats 16000000 in
theorem chiefSilent_walk (nz whoz timez : Int) (w : World) (hB : BegunTrue10) (hlib : LibAt w) : Calls Tryz.prog 5 #[.int .i64 nz, .int .i64 whoz, .int .i64 timez] w fun e w' => e = .returned (.bool true) ∧ Below w.heap.size w w' := by
  have HB := Lib.hid (hB w hlib)
  have HL := Lib.hid hlib
  clear hB hlib
  by_cases t1 : nz < 1
  · go_enter Tryz.func5, Tryz.ntmps5
    go_wp2_with fail
    refine HB.out.mono ?_
    rintro _ w1 ⟨rfl, hb1⟩
    have H1 := Lib.hid hb1
    clear hb1
    go_wp2_with fail
    go_ret
    exact ⟨rfl, H1.out⟩
  by_cases t2 : 5 < nz
  · go_enter Tryz.func5, Tryz.ntmps5
    go_wp2_with fail
    refine HB.out.mono ?_
    rintro _ w1 ⟨rfl, hb1⟩
    have H1 := Lib.hid hb1
    clear hb1
    go_wp2_with fail
    go_ret
    exact ⟨rfl, H1.out⟩
  by_cases t3 : whoz < 1
  · go_enter Tryz.func5, Tryz.ntmps5
    go_wp2_with fail
    refine HB.out.mono ?_
    rintro _ w1 ⟨rfl, hb1⟩
    have H1 := Lib.hid hb1
    clear hb1
    go_wp2_with fail
    go_ret
    exact ⟨rfl, H1.out⟩
  by_cases t4 : nz < whoz
  · go_enter Tryz.func5, Tryz.ntmps5
    go_wp2_with fail
    refine HB.out.mono ?_
    rintro _ w1 ⟨rfl, hb1⟩
    have H1 := Lib.hid hb1
    clear hb1
    go_wp2_with fail
    go_ret
    exact ⟨rfl, H1.out⟩
  by_cases t5 : timez < 0
  · go_enter Tryz.func5, Tryz.ntmps5
    go_wp2_with fail
    refine HB.out.mono ?_
    rintro _ w1 ⟨rfl, hb1⟩
    have H1 := Lib.hid hb1
    clear hb1
    go_wp2_with fail
    go_ret
    exact ⟨rfl, H1.out⟩
  by_cases t6 : 40 < timez
  · go_enter Tryz.func5, Tryz.ntmps5
    go_wp2_with fail
    refine HB.out.mono ?_
    rintro _ w1 ⟨rfl, hb1⟩
    have H1 := Lib.hid hb1
    clear hb1
    go_wp2_with fail
    go_ret
    exact ⟨rfl, H1.out⟩
  obtain ⟨n, rfl⟩ : ∃ n : Nat, nz = n := ⟨nz.toNat, by omega⟩
  obtain ⟨m, rfl⟩ : ∃ m : Nat, whoz = m := ⟨whoz.toNat, by omega⟩
  obtain ⟨t, rfl⟩ : ∃ t : Nat, timez = t := ⟨timez.toNat, by omega⟩
  have HNMT : Hid ((1 ≤ n ∧ n ≤ 5) ∧ (1 ≤ m ∧ m ≤ n) ∧ t ≤ 40) := Lib.hid (by omega)
  obtain ⟨i0, hi, hz0, hz1, hz2⟩ := int_info
  have d1 : decide ((n : Int) < 1) = false := decide_eq_false t1
  have d2 : decide (5 < (n : Int)) = false := decide_eq_false t2
  have d3 : decide ((m : Int) < 1) = false := decide_eq_false t3
  have d4 : decide (n < m) = false := decide_eq_false (by omega)
  have d7 : ¬ n < m := by omega
  have d5 : decide ((t : Int) < 0) = false := decide_eq_false t5
  have d6 : decide (40 < (t : Int)) = false := decide_eq_false t6
  clear t1 t2 t3 t4 t5 t6
  go_enter Tryz.func5, Tryz.ntmps5
  go_wp2_with fail
  refine HB.out.mono ?_
  rintro _ w1 ⟨rfl, hb1⟩
  have HR0 : Hid (RbR w w1.heap.size 1 0 (upTo 0) 0 none 0 (w1.alloc (.cells #[.int .i64 1, .slice none 0 0, .int .i64 0] 24))) := Lib.hid ⟨heap_alloc_new w1 _, IOwn.nil _ _, rfl, hb1.alloc hb1.size _, hb1.size⟩
  clear hb1 HB
  go_wp2_with fail
  generalize w1.alloc _ = W1 at *
  generalize w1.heap.size = BX at *
  have hn5 : n ≤ 5 := HNMT.out.1.2
  clear d1 d2 d3 d4 d5 d6 d7
  go_loopw [9] (fun v9 wr => ∃ (k : Nat) (la : Option Addr) (lc : Nat), v9 = .int .i64 ((k : Int) + 1) ∧ k ≤ n ∧ Hid (RbR w BX 1 0 (upTo k) k la lc wr)) (fun v9 _ => n + 1 - (intOf v9).toNat)
  case atStart => exact ⟨0, none, 0, rfl, Nat.zero_le _, HR0⟩
  case round =>
    obtain ⟨k, la, lc, rfl, hk, HR⟩ := hrel
    by_cases hlt : k < n
    · have hltz : (k : Int) + 1 ≤ (n : Int) := by omega
      have hBX : BX < wr.heap.size := HR.out.box.lt
      obtain ⟨⟨b0, b1, b2⟩, g0, g1, g2⟩ := HR.out.box.rc
      have hby : Below wr.heap.size wr (wr.alloc (.cells #[.int .i64 ((k : Int) + 1)] 3)) := (Below.refl _ _).alloc (Nat.le_refl _) _
      have HOW : Hid ((wr.alloc (.cells #[.int .i64 ((k : Int) + 1)] 3)).ownsRow (BX + 1) 3 1 (.slice la k lc) k (icells (upTo k))) := Lib.hid (by
        have h1 := HR.out.own.below hby
        unfold IOwn at h1
        rw [upTo_len] at h1
        exact h1)
      have HGE : Hid (BX + 1 ≤ (wr.alloc (.cells #[.int .i64 ((k : Int) + 1)] 3)).heap.size) := Lib.hid (by simp; omega)
      have HNW : Hid (∀ j u, (icells [(k : Int) + 1])[j]? = some u → (wr.alloc (.cells #[.int .i64 ((k : Int) + 1)] 3)).cell? ((⟨wr.heap.size, 0, none⟩ : Addr).add j) = some u) := Lib.hid (World.news_of_block (B := wr.heap.size) (cs := #[.int .i64 ((k : Int) + 1)]) (t := 3) (fr := (0, 0)) (heap_alloc_new wr _))
      clear hby
      go_wp2_with (at_builtin; refine wpList_append_own_at _ rfl (.tmp 48) (.tmp 50) 22 rfl (BX + 1) 3 i0 _ 1 8 Tryz.underlying22 hi hz0 hz1 hz2 rfl (by decide) (.slice la k lc) k (icells (upTo k)) rfl HOW.out ⟨wr.heap.size, 0, none⟩ 1 1 (icells [(k : Int) + 1]) rfl rfl HNW.out (icells_one [(k : Int) + 1]) (by unfold maxLen; omega) (by omega) HGE.out ?_)
      intro v' w3 hown3 hgrow3 _ hloc3
      obtain ⟨⟨⟨e0, e1, e2⟩, z0, z1, z2⟩, la3, lc3, rfl, hE⟩ := HR.out.step hown3 hgrow3
      have HE : Hid (RbR w BX 1 0 (upTo (k + 1)) (k + 1) la3 lc3 _) := Lib.hid hE
      clear hown3 hgrow3 hloc3 hE b0 b1 b2 g0 g1 g2 HOW HGE HNW
      go_wp2_with fail
      go_roundw
      case rel => exact ⟨k + 1, la3, lc3, by go_num, by omega, HE⟩
      case measure => simp [intOf]; omega
    · have hltz : ¬ (k : Int) + 1 ≤ (n : Int) := by omega
      obtain rfl : k = n := by omega
      have HS := Lib.hid HR.out.sp
      clear HR HR0 hi hz0 hz1 hz2
      go_wp2_with fail
      have HSS : Hid (∀ (W' : World) (L' : List It), Sp w W' (rx BX 1 (.slice la k lc) 0 :: L') → W'.cell? ⟨BX, 0, none⟩ = some (.int .i64 1) ∧ W'.cell? ⟨BX, 1, none⟩ = some (.slice la k lc) ∧ W'.cell? ⟨BX, 2, none⟩ = some (.int .i64 0)) := Lib.hid (fun W' L' h => h.rx.rc.1)
      have hS0 := HSS.out wr.drew _ (HS.out.below (Below.refl _ wr).drew)
      refine wp_region_held (S := fun W' : World => W'.cell? ⟨BX, 0, none⟩ = some (.int .i64 1) ∧ W'.cell? ⟨BX, 1, none⟩ = some (.slice la k lc) ∧ W'.cell? ⟨BX, 2, none⟩ = some (.int .i64 0)) (by kernel_rfl) ?_
      change wpAnyH _ _ _ _ _ _ _ _ (World.drew _)
      refine wpAnyH_take (i := 1) (v := Value.agg #[.int .i64 1, .slice la k lc, .int .i64 0]) rfl (by kernel_rfl) (by kernel_rfl) (by kernel_rfl) (fun _ _ _ h => h) (Or.inl ⟨by rfl, ?_⟩) hS0 ?_
      · intro w' ⟨s1, s2, s3⟩; go_simp
      simp only [List.getElem_toArray, List.getElem_cons_succ, List.getElem_cons_zero, Act.put, List.setIfInBounds_toArray, List.set_cons_zero, List.set_cons_succ]
      clear hS0
      refine wpAnyH_ready (rs := [0]) (by kernel_rfl) (by simp) ?_
      refine AllReadyH.cons rfl (fun K hK => ?_) AllReadyH.nil
      simp only [List.getElem_toArray, List.getElem_cons_zero]
      go_simp
      refine (s_new 1048576 (HS.out.below (Below.refl _ wr).drew)).mono ?_
      rintro _ w4 ⟨c, rfl, h4⟩
      rw [r_new] at h4
      have H4 := Lib.hid (h4.perm (.cons _ (.swap _ _ _)))
      refine hK.out _ _ (HSS.out w4 _ h4.drop) (fun _ => ?_)
      clear hK h4 HS
      refine wpAnyH_ready (rs := [2]) (by kernel_rfl) (by simp) ?_
      refine AllReadyH.cons rfl (fun K hK => ?_) AllReadyH.nil
      simp only [List.getElem_toArray, List.getElem_cons_succ, List.getElem_cons_zero]
      go_simp
      refine (open_new H4.out (by decide) (by have := upTo_may k HNMT.out.1; exact this) HL.out 0).mono ?_
      rintro _ w5 ⟨x, j, rfl, h5⟩
      have H5 : Hid (CK w w5 x j c 1048576 (slDays k m 0) [ix (.slice la k lc) (upTo k), rx BX 1 (.slice la k lc) 0]) := Lib.hid h5
      have hS0 : (fun W' : World => W'.cell? ⟨BX, 0, none⟩ = some (.int .i64 1) ∧ W'.cell? ⟨BX, 1, none⟩ = some (.slice la k lc) ∧ W'.cell? ⟨BX, 2, none⟩ = some (.int .i64 0)) w5 := by
        obtain ⟨v, v', b, rs, hg, hsp⟩ := h5
        obtain ⟨F, h6, _⟩ := hsp.mem (i := rx BX 1 (.slice la k lc) 0) (.tail _ (.tail _ (.tail _ (.head _))))
        exact RH.rc h6 |>.1
      refine hK.out _ _ hS0 (fun hS0 => ?_)
      clear hK h5 H4
      refine wpAnyH_take (i := 3) (v := Value.tuple #[.pointer (some ⟨x, 0, none⟩), .int .i64 0]) rfl (by kernel_rfl) (by kernel_rfl) (by kernel_rfl) (fun _ _ _ h => h) (Or.inl ⟨by rfl, ?_⟩) hS0 ?_
      · intro w' ⟨s1, s2, s3⟩; go_simp
      refine wpAnyH_take (i := 4) (v := Value.pointer (some ⟨x, 0, none⟩)) rfl (by kernel_rfl) (by kernel_rfl) (by kernel_rfl) (fun _ _ _ h => h) (Or.inl ⟨by rfl, ?_⟩) hS0 ?_
      · intro w' ⟨s1, s2, s3⟩; go_simp
      refine wpAnyH_take (i := 5) (v := Value.int .i64 0) rfl (by kernel_rfl) (by kernel_rfl) (by kernel_rfl) (fun _ _ _ h => h) (Or.inl ⟨by rfl, ?_⟩) hS0 ?_
      · intro w' ⟨s1, s2, s3⟩; go_simp
      simp only [List.getElem_toArray, List.getElem_cons_succ, List.getElem_cons_zero, Act.put, List.setIfInBounds_toArray, List.set_cons_zero, List.set_cons_succ]
      refine wpAnyH_ready (rs := [6]) (by kernel_rfl) (by simp) ?_
      refine AllReadyH.cons rfl (fun K hK => ?_) AllReadyH.nil
      simp only [List.getElem_toArray, List.getElem_cons_succ, List.getElem_cons_zero]
      go_simp
      refine hK.out _ _ hS0 (fun hS0 => ?_)
      clear hK
      refine wpAnyH_ready (rs := [7]) (by kernel_rfl) (by simp) ?_
      refine AllReadyH.cons rfl (fun K hK => ?_) AllReadyH.nil
      simp only [List.getElem_toArray, List.getElem_cons_succ, List.getElem_cons_zero]
      go_simp
      refine hK.out _ _ hS0 (fun hS0 => ?_)
      clear hK hS0
      refine wpAnyH_done (by kernel_rfl) ?_ _
      go_wp2_with fail
      generalize [ix (.slice la k lc) (upTo k), rx BX 1 (.slice la k lc) 0] = L9 at *
      clear HSS
      go_loopw [12, 13] (fun v12 _ wr => ∃ (d : Nat), v12 = .int .i64 ((d : Int) + 1) ∧ d ≤ t ∧ Hid (CK w wr x j c 1048576 (slDays k m d) L9)) (fun v12 _ _ => t + 1 - (intOf v12).toNat)
      case atStart => exact ⟨0, rfl, Nat.zero_le _, H5⟩
      case round =>
        obtain ⟨d, rfl, hd, HD⟩ := hrel
        have ht40 : t ≤ 40 := HNMT.out.2.2
        by_cases hdl : d < t
        · have hdz : (d : Int) + 1 ≤ (t : Int) := by omega
          go_wp2_with fail
          refine (tick_p HD.out (by decide) HL.out ((d : Int) + 1) (by omega) (by omega)).mono ?_
          rintro _ w6 ⟨rfl, h6⟩
          have H6 : Hid (CK w w6 x j c 1048576 (slBs m ((d : Int) + 1) (tickS (slDays k m d) ((d : Int) + 1)) 0) L9) := Lib.hid h6
          clear h6 HD
          go_wp2_with fail
          go_loopw [13] (fun v13 wr2 => ∃ (i : Nat), v13 = .int .i64 ((i : Int) + 1) ∧ i ≤ k ∧ Hid (CK w wr2 x j c 1048576 (slBs m ((d : Int) + 1) (tickS (slDays k m d) ((d : Int) + 1)) i) L9)) (fun v13 _ => k + 1 - (intOf v13).toNat)
          case atStart => exact ⟨0, rfl, Nat.zero_le _, H6⟩
          case round =>
            obtain ⟨i, rfl, hi, HI⟩ := hrel
            by_cases hil : i < k
            · have hilz : (i : Int) + 1 ≤ (k : Int) := by omega
              obtain ⟨s, hs⟩ : ∃ s, slBs m ((d : Int) + 1) (tickS (slDays k m d) ((d : Int) + 1)) i = s := ⟨_, rfl⟩
              have hsu := slBs_succ m ((d : Int) + 1) (tickS (slDays k m d) ((d : Int) + 1)) i
              rw [hs] at hsu HI
              obtain ⟨s2, hs2e⟩ : ∃ s2, slBs m ((d : Int) + 1) (tickS (slDays k m d) ((d : Int) + 1)) (i + 1) = s2 := ⟨_, rfl⟩
              have HS2E := Lib.hid hs2e
              rw [hs2e] at hsu
              have HSU := Lib.hid hsu
              clear hs hsu hs2e
              by_cases him : (i : Int) + 1 = (m : Int)
              · have himb : ((i : Int) + 1 != (m : Int)) = false := by rw [bne_eq_false_iff_eq]; exact him
                have hs2 := HSU.out
                unfold slB at hs2
                rw [if_pos him] at hs2
                subst hs2
                clear him HSU H6
                go_wp2_with fail
                go_roundw
                case rel => exact ⟨i + 1, by go_num, by omega, by rw [HS2E.out]; exact HI⟩
                case measure => simp [intOf]; omega
              · have himb : ((i : Int) + 1 != (m : Int)) = true := by rw [bne_iff_ne]; exact him
                have hs2 := HSU.out
                unfold slB at hs2
                rw [if_neg him] at hs2
                have HS2 := Lib.hid hs2
                obtain ⟨v, v', hc, hv, hm, hl⟩ := HI.out.chief
                have HRO := Lib.hid (croster_p hc hv (by omega))
                have f0 := field0
                clear him HSU H6 hs2 hc hv hm hl
                go_wp2_with fail
                refine HRO.out.mono ?_
                rintro _ w7 ⟨_, _, rfl, _, hb7⟩
                have H7 := Lib.hid (HI.out.below hb7)
                clear hb7 HRO HI
                go_wp2_with fail
                refine (step_p H7.out (by decide) HL.out 1 ((i : Int) + 1) 0 s.r.ep Wq.zero ((d : Int) + 1) (by omega) (by omega)).mono ?_
                rintro _ w8 ⟨u8, rfl, h8⟩
                have H8 : Hid (CK w w8 x j c 1048576 s2 L9) := Lib.hid (by rw [HS2.out]; exact h8.ck)
                clear h8 H7 HS2
                go_wp2_with fail
                go_roundw
                case rel => exact ⟨i + 1, by go_num, by omega, by rw [HS2E.out]; exact H8⟩
                case measure => simp [intOf]; omega
            · have hilz : ¬ (i : Int) + 1 ≤ (k : Int) := by omega
              have hik : i = k := by omega
              rw [hik] at HI
              have HDN : Hid (CK w _ x j c 1048576 (slDays k m (d + 1)) L9) := HI
              clear HI H6
              go_wp2_with fail
              go_roundw
              case rel => exact ⟨d + 1, by go_num, by omega, HDN⟩
              case measure => simp [intOf]; omega
        · have hdz : ¬ (d : Int) + 1 ≤ (t : Int) := by omega
          obtain rfl : d = t := by omega
          have HOK := Lib.hid (sl_ok HNMT.out.1 HNMT.out.2.1 HNMT.out.2.2)
          generalize slDays k m d = s at *
          obtain ⟨v, v', hc, hv, hm, hl⟩ := HD.out.chief
          have HC := Lib.hid (And.intro hc hv)
          have HRO := Lib.hid (croster_p hc hv (by omega))
          have HSPT := Lib.hid (fun (u : Value) W (hu : IsAt W u s.r.l) => spot_p s.r.ep s.r.nw m u s.r.l W hu (by omega))
          have hok := HOK.out
          unfold slOk slGone at hok
          have hcg : s.chg = true ∨ s.chg = false := by cases s.chg <;> simp
          have hlo : s.lost = true ∨ s.lost = false := by cases s.lost <;> simp
          generalize ixI s.r.l m = X at *
          clear hc hv hm HOK hcg hlo
          by_cases hk1 : k = 1
          · subst hk1
            rw [if_pos rfl] at hok
            by_cases hX : X < 0
            · rw [decide_eq_true hX] at hok
              cases hok
            have hXd : decide (X < 0) = false := decide_eq_false hX
            rw [hXd] at hok
            by_cases h9 : 9 < (d : Int)
            · have h9d : decide (9 < (d : Int)) = true := decide_eq_true h9
              rw [h9d] at hok
              have hl1 : s.lost = true := by cases hl : s.lost <;> rw [hl] at hok <;> first | rfl | cases hok
              clear hX hok h9
              go_wp2_with fail
              refine HRO.out.mono ?_
              rintro _ w7 ⟨a7, c7, rfl, ho7, hb7⟩
              have H7 := Lib.hid (HD.out.below hb7)
              have HO7 := Lib.hid ho7.at
              clear ho7 hb7 HRO
              go_wp2_with fail
              refine (HSPT.out _ w7 HO7.out).mono ?_
              rintro _ w8 ⟨rfl, hb8⟩
              have H8 := Lib.hid (H7.out.below hb8)
              obtain ⟨v8, v8', hc8, _, _, _⟩ := H8.out.chief
              have HC8 := Lib.hid hc8
              clear hb8 hc8 H7 HO7
              go_wp2_with fail
              refine (lost_p HC8.out).mono ?_
              rw [hl1]
              rintro _ _ ⟨rfl, rfl⟩
              go_wp2_with fail
              go_ret
              exact ⟨rfl, H8.out.bl⟩
            · have h9d : decide (9 < (d : Int)) = false := decide_eq_false h9
              rw [h9d] at hok
              have hl1 : s.lost = false := by cases hl : s.lost <;> rw [hl] at hok <;> first | rfl | cases hok
              clear hX hok h9
              go_wp2_with fail
              refine HRO.out.mono ?_
              rintro _ w7 ⟨a7, c7, rfl, ho7, hb7⟩
              have H7 := Lib.hid (HD.out.below hb7)
              have HO7 := Lib.hid ho7.at
              clear ho7 hb7 HRO
              go_wp2_with fail
              refine (HSPT.out _ w7 HO7.out).mono ?_
              rintro _ w8 ⟨rfl, hb8⟩
              have H8 := Lib.hid (H7.out.below hb8)
              obtain ⟨v8, v8', hc8, _, _, _⟩ := H8.out.chief
              have HC8 := Lib.hid hc8
              clear hb8 hc8 H7 HO7
              go_wp2_with fail
              refine (lost_p HC8.out).mono ?_
              rw [hl1]
              rintro _ _ ⟨rfl, rfl⟩
              go_wp2_with fail
              go_ret
              exact ⟨rfl, H8.out.bl⟩
          · have hkb : ((k : Int) == 1) = false := by rw [beq_eq_false_iff_ne]; omega
            rw [if_neg hk1] at hok
            by_cases hX : X < 0
            · have hXd : decide (X < 0) = true := decide_eq_true hX
              rw [hXd] at hok
              by_cases h9 : 9 < (d : Int)
              · have h9d : decide (9 < (d : Int)) = true := decide_eq_true h9
                rw [h9d] at hok
                have hl1 : s.lost = false := by
                  by_cases h17 : (d : Int) < 17 <;> simp [h17] at hok <;> exact hok
                by_cases h17 : (d : Int) < 17
                · have h17d : decide ((d : Int) < 17) = true := decide_eq_true h17
                  clear hX hok h9 hk1 h17
                  go_wp2_with fail
                  refine HRO.out.mono ?_
                  rintro _ w7 ⟨a7, c7, rfl, ho7, hb7⟩
                  have H7 := Lib.hid (HD.out.below hb7)
                  have HO7 := Lib.hid ho7.at
                  clear ho7 hb7 HRO
                  go_wp2_with fail
                  refine (HSPT.out _ w7 HO7.out).mono ?_
                  rintro _ w8 ⟨rfl, hb8⟩
                  have H8 := Lib.hid (H7.out.below hb8)
                  obtain ⟨v8, v8', hc8, _, _, _⟩ := H8.out.chief
                  have HC8 := Lib.hid hc8
                  clear hb8 hc8 H7 HO7
                  go_wp2_with fail
                  refine (lost_p HC8.out).mono ?_
                  rw [hl1]
                  rintro _ _ ⟨rfl, rfl⟩
                  go_wp2_with fail
                  go_ret
                  exact ⟨rfl, H8.out.bl⟩
                · have h17d : decide ((d : Int) < 17) = false := decide_eq_false h17
                  clear hX hok h9 hk1 h17
                  go_wp2_with fail
                  refine HRO.out.mono ?_
                  rintro _ w7 ⟨a7, c7, rfl, ho7, hb7⟩
                  have H7 := Lib.hid (HD.out.below hb7)
                  have HO7 := Lib.hid ho7.at
                  clear ho7 hb7 HRO
                  go_wp2_with fail
                  refine (HSPT.out _ w7 HO7.out).mono ?_
                  rintro _ w8 ⟨rfl, hb8⟩
                  have H8 := Lib.hid (H7.out.below hb8)
                  obtain ⟨v8, v8', hc8, _, _, _⟩ := H8.out.chief
                  have HC8 := Lib.hid hc8
                  clear hb8 hc8 H7 HO7
                  go_wp2_with fail
                  refine (lost_p HC8.out).mono ?_
                  rw [hl1]
                  rintro _ _ ⟨rfl, rfl⟩
                  go_wp2_with fail
                  go_ret
                  exact ⟨rfl, H8.out.bl⟩
              · rw [decide_eq_false h9] at hok
                simp at hok
            · have hXd : decide (X < 0) = false := decide_eq_false hX
              rw [hXd] at hok
              by_cases h17 : (d : Int) < 17
              case neg =>
                exfalso
                simp [h17] at hok
              have h17d : decide ((d : Int) < 17) = true := decide_eq_true h17
              rw [if_pos h17] at hok
              by_cases h9 : 9 < (d : Int)
              · have h9d : decide (9 < (d : Int)) = true := decide_eq_true h9
                rw [h9d] at hok
                have hc1 : s.chg = true := by cases hl : s.chg <;> rw [hl] at hok <;> first | rfl | (exfalso; simp at hok)
                rw [hc1] at hok
                have hl1 : s.lost = false := by simpa using hok
                clear hX hok h9 hk1 h17
                go_wp2_with fail
                refine HRO.out.mono ?_
                rintro _ w7 ⟨a7, c7, rfl, ho7, hb7⟩
                have H7 := Lib.hid (HD.out.below hb7)
                have HO7 := Lib.hid ho7.at
                clear ho7 hb7 HRO
                go_wp2_with fail
                refine (HSPT.out _ w7 HO7.out).mono ?_
                rintro _ w8 ⟨rfl, hb8⟩
                have H8 := Lib.hid (H7.out.below hb8)
                obtain ⟨v8, v8', hc8, _, _, _⟩ := H8.out.chief
                have HC8 := Lib.hid hc8
                clear hb8 hc8 H7 HO7
                go_wp2_with fail
                refine (changing_p HC8.out).mono ?_
                rw [hc1]
                rintro _ _ ⟨rfl, rfl⟩
                go_wp2_with fail
                refine (lost_p HC8.out).mono ?_
                rw [hl1]
                rintro _ _ ⟨rfl, rfl⟩
                go_wp2_with fail
                go_ret
                exact ⟨rfl, H8.out.bl⟩
              · have h9d : decide (9 < (d : Int)) = false := decide_eq_false h9
                rw [h9d] at hok
                have hc1 : s.chg = false := by cases hl : s.chg <;> rw [hl] at hok <;> first | rfl | (exfalso; simp at hok)
                rw [hc1] at hok
                have hl1 : s.lost = false := by simpa using hok
                clear hX hok h9 hk1 h17
                go_wp2_with fail
                refine HRO.out.mono ?_
                rintro _ w7 ⟨a7, c7, rfl, ho7, hb7⟩
                have H7 := Lib.hid (HD.out.below hb7)
                have HO7 := Lib.hid ho7.at
                clear ho7 hb7 HRO
                go_wp2_with fail
                refine (HSPT.out _ w7 HO7.out).mono ?_
                rintro _ w8 ⟨rfl, hb8⟩
                have H8 := Lib.hid (H7.out.below hb8)
                obtain ⟨v8, v8', hc8, _, _, _⟩ := H8.out.chief
                have HC8 := Lib.hid hc8
                clear hb8 hc8 H7 HO7
                go_wp2_with fail
                refine (changing_p HC8.out).mono ?_
                rw [hc1]
                rintro _ _ ⟨rfl, rfl⟩
                go_wp2_with fail
                refine (lost_p HC8.out).mono ?_
                rw [hl1]
                rintro _ _ ⟨rfl, rfl⟩
                go_wp2_with fail
                go_ret
                exact ⟨rfl, H8.out.bl⟩
end Go.Proofs.YtcnbgpgbeibakaaGreatDoor
