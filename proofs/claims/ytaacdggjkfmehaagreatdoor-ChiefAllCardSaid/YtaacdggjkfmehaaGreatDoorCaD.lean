/-
  Contracts of the program, and what they rest on.
-/
import Derived.Test.YtaacdggjkfmehaaGreatDoorM22
import Derived.Test.YtaacdggjkfmehaaGreatDoorM03
import Derived.Test.YtaacdggjkfmehaaGreatDoorM02
import Derived.Test.YtaacdggjkfmehaaGreatDoorRRosH
import Derived.Test.YtaacdggjkfmehaaGreatDoorCaA
import Derived.Test.YtaacdggjkfmehaaGreatDoorCaB
import Derived.Test.YtaacdggjkfmehaaGreatDoorCaC
namespace Go.Proofs.YtaacdggjkfmehaaGreatDoor
open Go.RowKit Go.Maps Go.Proofs.MapD Go.Proofs.Chest
section
variable {w0 w : World} {y : Nat} {v v' : Value} {t : Qs} {L : List It}
theorem qdrops_no (t : Qs) (now : Int) (h : (qdrops t now).2.1 = false) : (qdrops t now).2.2 = false := by
  unfold qdrops at h ⊢
  split at h
  · rename_i hs
    rw [if_pos hs]
  · cases h
set_option maxRecDepth 100000 in
set_option maxHeartbeats 8000000 in
theorem tick_q (h : Sp w0 w (qx y v v' t :: L)) (hm : ∀ z ∈ t.r.l, 1 ≤ z ∧ z ≤ 5) (hl : t.r.l.length ≤ 900) (hep : -9223372036854775808 ≤ t.r.ep ∧ t.r.ep < 9223372036854775807) (hh : QHb t.hd) (now : Int) (h0 : 0 ≤ now) (h1 : now ≤ 1000000) :
    Calls Tryz.prog 14 #[.pointer (some ⟨y, 0, none⟩), .int .i64 now] w fun e w' => e = .returned (.tuple #[]) ∧ ∃ u u', Sp w0 w' (qx y u u' (qtick t now) :: L) := by
  obtain ⟨hc, hv, hv'⟩ := h.qc
  obtain ⟨ad, cap, rfl, _⟩ := hv.shape
  obtain ⟨ad', cap', rfl, _⟩ := hv'.shape
  obtain ⟨c0, c1, c2, c3, c4, c5, c6, c7, c14, c15⟩ := hc.cells
  have f0 := hc.free 0
  have f1 := hc.free 1
  have f2 := hc.free 2
  have f6 := hc.free 6
  have f15 := hc.free 15
  cases hchg : t.chg with
  | true =>
    rw [hchg] at c6
    by_cases hu : t.un < now
    · have e : qtick t now = ⟨t.nx, t.nx, false, t.un, allH now, 0, false⟩ := by unfold qtick; rw [hchg, if_pos rfl, if_pos hu]
      rw [e]
      have HSP := Lib.hid h
      have HC := Lib.hid hc
      clear h hc hv hv' hm hl hep hh hchg e
      go_enter Tryz.func14, Tryz.ntmps14
      go_wp2_with fail
      have hcc := ((HC.out.lostS false).rosterS t.nx (.slice ad' t.nx.l.length cap')).chgS false
      dsimp only at hcc
      have ho : Only [y] w (((((w.setCell ⟨y, 15, none⟩ (.bool false)).setCell ⟨y, 0, none⟩ (.int .i64 t.nx.ep)).setCell ⟨y, 1, none⟩ (.slice ad' t.nx.l.length cap')).setCell ⟨y, 2, none⟩ (.int .i64 t.nx.nw)).setCell ⟨y, 6, none⟩ (.bool false)) :=
        (((((Only.refl [y] w).setCell (p := ⟨y, 15, none⟩) (.inl (by simp)) _).setCell (p := ⟨y, 0, none⟩) (.inl (by simp)) _).setCell (p := ⟨y, 1, none⟩) (.inl (by simp)) _).setCell (p := ⟨y, 2, none⟩) (.inl (by simp)) _).setCell (p := ⟨y, 6, none⟩) (.inl (by simp)) _
      clear c0 c1 c2 c3 c4 c5 c6 c7 c14 c15 f0 f1 f2 f6 f15
      generalize World.setCell (World.setCell (World.setCell (World.setCell (World.setCell w _ _) _ _) _ _) _ _) _ _ = W1 at *
      refine (hear_q hcc now).mono ?_
      rintro _ w2 ⟨rfl, h2, ho2⟩
      have hO := ho.trans ho2 (fun i hi => .inl hi)
      have hi := (HSP.out.qc.2.2).keep (w' := w2) (fun g hg => hO.block g (HSP.out.qc.2.2.lt hg) (by simp; rintro rfl; exact HSP.out.qRows.2 hg))
      have H2 := Lib.hid (HSP.out.qTurn w2 ⟨t.nx, t.nx, false, t.un, allH now, 0, false⟩ (.slice ad' t.nx.l.length cap') (.slice ad' t.nx.l.length cap') h2 hi hi (fun g hg => .inr (.inl hg)) (fun g hg => .inr (.inl hg)) hO)
      clear h2 ho2 hcc ho hO hi
      go_wp2_with fail
      first | exact bodyPost_end (results_none rfl _ _ _) rfl ⟨rfl, _, _, H2.out⟩ | exact bodyPost_ret (results_none rfl _ _ _) rfl ⟨rfl, _, _, H2.out⟩
    · have e : qtick t now = ⟨t.r, t.nx, t.chg, t.un, t.hd, t.asks, false⟩ := by unfold qtick; rw [hchg, if_pos rfl, if_neg hu]
      rw [e]
      have H1 := Lib.hid (h.qSame (hc.lostS false) rfl rfl ((Only.refl [y] w).setCell (p := ⟨y, 15, none⟩) (.inl (by simp)) _))
      clear h hc hv hv' hm hl hep hh hchg e
      go_enter Tryz.func14, Tryz.ntmps14
      go_wp2_with fail
      first | exact bodyPost_end (results_none rfl _ _ _) rfl ⟨rfl, _, _, H1.out⟩ | exact bodyPost_ret (results_none rfl _ _ _) rfl ⟨rfl, _, _, H1.out⟩
  | false =>
    rw [hchg] at c6
    have e : qtick t now = if (qfound t now).2 then ⟨t.r, (qfound t now).1, true, t.un, t.hd, t.asks, (qdrops t now).2.1 && !(qdrops t now).2.2⟩ else ⟨t.r, t.nx, t.chg, t.un, t.hd, t.asks, (qdrops t now).2.1 && !(qdrops t now).2.2⟩ := by unfold qtick; rw [hchg, if_neg Bool.false_ne_true]
    unfold qfound at e
    have H1 := Lib.hid (h.qSame (hc.lostS false) rfl rfl ((Only.refl [y] w).setCell (p := ⟨y, 15, none⟩) (.inl (by simp)) _))
    have HDR := Lib.hid (drops_q (t := ⟨t.r, t.nx, t.chg, t.un, t.hd, t.asks, false⟩) H1.out.qc.1 H1.out.qc.2.1 hm hl hh now h0 h1)
    rw [show qdrops ⟨t.r, t.nx, t.chg, t.un, t.hd, t.asks, false⟩ now = qdrops t now from rfl] at HDR
    obtain ⟨⟨⟨re, rl, rn⟩, si, ok⟩, hD⟩ : ∃ D, qdrops t now = D := ⟨_, rfl⟩
    have hno := qdrops_no t now
    rw [hD] at e HDR hno
    dsimp only at e hno
    obtain ⟨T, hT⟩ : ∃ T, qtick t now = T := ⟨_, rfl⟩
    rw [hT] at e ⊢
    have HE := Lib.hid e
    have HNO := Lib.hid hno
    clear hT hno
    have HM := Lib.hid (And.intro hl hep)
    clear h hc hv hv' hm hl hep hh hD e h0 h1
    go_enter Tryz.func14, Tryz.ntmps14
    go_wp2_with fail
    generalize w.setCell _ _ = W1 at *
    clear c0 c1 c2 c3 c4 c5 c6 c7 c14 c15 f0 f1 f2 f6 f15
    refine HDR.out.mono ?_
    rintro _ w2 ⟨a2, d2, rfl, ho2, hb2⟩
    dsimp only at ho2 ⊢
    have HO2 := Lib.hid ho2
    have H2 := Lib.hid (H1.out.below hb2)
    have HBS := Lib.hid hb2.size
    have HX := Lib.hid (show Only [y] W1 w2 from ⟨hb2.os, hb2.tape, hb2.output, hb2.size, fun k hk _ => hb2.block k hk⟩)
    clear hb2 ho2 HDR
    have HA := Lib.hid ((Below.refl w2.heap.size w2).alloc (Nat.le_refl _) (.cells #[.int .i64 re, .slice a2 rl.length d2, .int .i64 rn] 24))
    have H3 := Lib.hid (H2.out.below HA.out)
    obtain ⟨c0, c1, c2, c3, c4, c5, c6, c7, c14, c15⟩ := H3.out.qc.1.cells
    have f15 := H3.out.qc.1.free 15
    dsimp only at c0 c1 c2 c3 c4 c5 c6 c7 c14 c15
    rw [hchg] at c6
    have hyl : ¬ y = w2.heap.size := by have := H2.out.qc.1.lt; omega
    have hyl' : ¬ w2.heap.size = y := fun e => hyl e.symm
    have HX3 := Lib.hid (HX.out.alloc (.cells #[.int .i64 re, .slice a2 rl.length d2, .int .i64 rn] 24))
    have HO3 := Lib.hid (HO2.out.below HA.out)
    have HRB := Lib.hid (RC.new w2 re a2 rl.length d2 rn 24)
    have HFIN : Hid (∀ (r' : Ro) (l' : Bool) (ad9 : Option Addr) (c9 : Nat) (W' : World), QC W' y (.slice ad t.r.l.length cap) (.slice ad9 r'.l.length c9) ⟨t.r, r', true, t.un, t.hd, t.asks, l'⟩ → IOwn W' W1.heap.size (.slice ad9 r'.l.length c9) r'.l → Only [y] W1 W' → Sp w0 W' (qx y (.slice ad t.r.l.length cap) (.slice ad9 r'.l.length c9) ⟨t.r, r', true, t.un, t.hd, t.asks, l'⟩ :: L)) := Lib.hid (fun r' l' ad9 c9 W' g1 g2 g3 =>
      H1.out.qTurn W' _ _ _ g1 ((H1.out.qc.2.1).keep (fun g hg => g3.block g (H1.out.qc.2.1.lt hg) (by simp; rintro rfl; exact H1.out.qRows.1 hg))) g2.at (fun g hg => .inl hg) (fun g hg => .inr (.inr (g2.lt hg).1)) g3)
    cases si with
    | true =>
      rw [if_pos rfl] at HE
      dsimp only at HE
      cases ok with
      | false =>
        rw [if_neg Bool.false_ne_true, hchg] at HE
        have e := HE.out
        subst e
        have H4 := Lib.hid (H3.out.qSame (H3.out.qc.1.lostS true) rfl rfl ((Only.refl [y] _).setCell (p := ⟨y, 15, none⟩) (.inl (by simp)) _))
        dsimp only at H4
        rw [hchg] at H4
        clear hchg HE HO2 H2 HX HA HX3 HO3 HRB HFIN H1
        go_wp2_with fail
        first | exact bodyPost_end (results_none rfl _ _ _) rfl ⟨rfl, _, _, H4.out⟩ | exact bodyPost_ret (results_none rfl _ _ _) rfl ⟨rfl, _, _, H4.out⟩
      | true =>
        rw [if_pos rfl] at HE
        have e := HE.out
        subst e
        have f3 := H3.out.qc.1.free 3
        have f4 := H3.out.qc.1.free 4
        have f5 := H3.out.qc.1.free 5
        have f6 := H3.out.qc.1.free 6
        obtain ⟨⟨q0, q1, q2⟩, _⟩ := HRB.out
        have hc9 := (((H3.out.qc.1.lostS false).nextS ⟨re, rl, rn⟩ (.slice a2 rl.length d2)).chgS true)
        dsimp only at hc9
        have HC9 := Lib.hid hc9
        clear hchg HE HO2 H2 HX HA HRB hc9
        go_wp2_with fail
        have HF := HFIN.out ⟨re, rl, rn⟩ false a2 d2 _ HC9.out (HO3.out.kept (fun g hg => by
          have hg1 : g ≠ y := by
            have h1 := (HO3.out.lt hg).1
            have h2 := H1.out.qc.1.lt
            omega
          rw [Below.heap_setCell _ _ _ _ hg1, Below.heap_setCell _ _ _ _ hg1, Below.heap_setCell _ _ _ _ hg1, Below.heap_setCell _ _ _ _ hg1, Below.heap_setCell _ _ _ _ hg1])) (((((HX3.out.setCell (p := ⟨y, 15, none⟩) (.inl (by simp)) _).setCell (p := ⟨y, 3, none⟩) (.inl (by simp)) _).setCell (p := ⟨y, 4, none⟩) (.inl (by simp)) _).setCell (p := ⟨y, 5, none⟩) (.inl (by simp)) _).setCell (p := ⟨y, 6, none⟩) (.inl (by simp)) _)
        first | exact bodyPost_end (results_none rfl _ _ _) rfl ⟨rfl, _, _, HF⟩ | exact bodyPost_ret (results_none rfl _ _ _) rfl ⟨rfl, _, _, HF⟩
    | false =>
      have hok : ok = false := HNO.out rfl
      subst hok
      rw [if_neg Bool.false_ne_true, hchg] at HE
      have H4 := Lib.hid (H3.out.qSame (H3.out.qc.1.lostS false) rfl rfl ((Only.refl [y] _).setCell (p := ⟨y, 15, none⟩) (.inl (by simp)) (.bool false)))
      dsimp only at H4
      rw [hchg] at H4
      clear hchg HNO HO2 H2 HX HO3
      by_cases ha : t.asks = 0
      · rw [if_pos ha, if_neg Bool.false_ne_true] at HE
        have e := HE.out
        subst e
        have hab : (t.asks != 0) = false := by rw [bne_eq_false_iff_eq]; exact ha
        clear HE ha HX3 HRB HFIN HA
        go_wp2_with fail
        first | exact bodyPost_end (results_none rfl _ _ _) rfl ⟨rfl, _, _, H4.out⟩ | exact bodyPost_ret (results_none rfl _ _ _) rfl ⟨rfl, _, _, H4.out⟩
      · rw [if_neg ha] at HE
        have hab : (t.asks != 0) = true := by rw [bne_iff_ne]; exact ha
        have HX4 := Lib.hid (HX3.out.setCell (p := ⟨y, 15, none⟩) (.inl (by simp)) (.bool false))
        have HRB4 := Lib.hid (show RC ((w2.alloc (.cells #[.int .i64 re, .slice a2 rl.length d2, .int .i64 rn] 24)).setCell ⟨y, 15, none⟩ (.bool false)) w2.heap.size re (.slice a2 rl.length d2) rn by
          obtain ⟨⟨q0, q1, q2⟩, q3, q4, q5⟩ := HRB.out
          refine ⟨⟨?_, ?_, ?_⟩, ?_, ?_, ?_⟩ <;> go_simp)
        clear ha HX3 HRB HA H3
        go_wp2_with fail
        generalize World.setCell (World.alloc w2 _) _ _ = W4 at *
        generalize w2.heap.size = B9 at *
        clear c0 c1 c2 c3 c4 c5 c6 c7 c14 c15 f15
        have HRA := Lib.hid (fun W (hW : IsAt W (.slice ad t.r.l.length cap) t.r.l) => raddn_p t.r.ep t.r.nw t.asks _ t.r.l W hW HM.out.1 HM.out.2)
        obtain ⟨⟨⟨ge, gl, gn⟩, gb⟩, hG⟩ : ∃ G, addR t.r t.asks = G := ⟨_, rfl⟩
        rw [hG] at HE
        rw [show (⟨t.r.ep, t.r.l, t.r.nw⟩ : Ro) = t.r from rfl, hG] at HRA
        clear hG
        have HSS : Hid (∀ W', Sp w0 W' (qx y (.slice ad t.r.l.length cap) (.slice ad' t.nx.l.length cap') ⟨t.r, t.nx, false, t.un, t.hd, t.asks, false⟩ :: L) → W'.cell? ⟨y, 0, none⟩ = some (.int .i64 t.r.ep) ∧ W'.cell? ⟨y, 1, none⟩ = some (.slice ad t.r.l.length cap) ∧ W'.cell? ⟨y, 2, none⟩ = some (.int .i64 t.r.nw) ∧ W'.cell? ⟨y, 14, none⟩ = some (.int .i64 t.asks)) := Lib.hid (fun W' hW => by
          obtain ⟨g0, g1, g2, _, _, _, _, _, g14, _⟩ := hW.qc.1.cells
          exact ⟨g0, g1, g2, g14⟩)
        have H4D := Lib.hid (H4.out.below (Below.refl _ W4).drew)
        have hS0 := HSS.out _ H4D.out
        refine wp_region_held (S := fun W' : World => W'.cell? ⟨y, 0, none⟩ = some (.int .i64 t.r.ep) ∧ W'.cell? ⟨y, 1, none⟩ = some (.slice ad t.r.l.length cap) ∧ W'.cell? ⟨y, 2, none⟩ = some (.int .i64 t.r.nw) ∧ W'.cell? ⟨y, 14, none⟩ = some (.int .i64 t.asks)) (by kernel_rfl) ?_
        change wpAnyH _ _ _ _ _ _ _ _ (World.drew _)
        refine wpAnyH_take (i := 0) (v := Value.pointer (some ⟨y, 0, none⟩)) rfl (by kernel_rfl) (by kernel_rfl) (by kernel_rfl) (fun _ _ _ h => h) (Or.inl ⟨by rfl, ?_⟩) hS0 ?_
        · intro w' ⟨s0, s1, s2, s3⟩; go_simp
        refine wpAnyH_take (i := 1) (v := Value.pointer (some ⟨y, 0, none⟩)) rfl (by kernel_rfl) (by kernel_rfl) (by kernel_rfl) (fun _ _ _ h => h) (Or.inl ⟨by rfl, ?_⟩) hS0 ?_
        · intro w' ⟨s0, s1, s2, s3⟩; go_simp
        refine wpAnyH_take (i := 2) (v := Value.pointer (some ⟨y, 0, none⟩)) rfl (by kernel_rfl) (by kernel_rfl) (by kernel_rfl) (fun _ _ _ h => h) (Or.inl ⟨by rfl, ?_⟩) hS0 ?_
        · intro w' ⟨s0, s1, s2, s3⟩; go_simp
        refine wpAnyH_take (i := 3) (v := Value.agg #[.int .i64 t.r.ep, .slice ad t.r.l.length cap, .int .i64 t.r.nw]) rfl (by kernel_rfl) (by kernel_rfl) (by kernel_rfl) (fun _ _ _ h => h) (Or.inl ⟨by rfl, ?_⟩) hS0 ?_
        · intro w' ⟨s0, s1, s2, s3⟩; go_simp
        refine wpAnyH_take (i := 4) (v := Value.pointer (some ⟨y, 0, none⟩)) rfl (by kernel_rfl) (by kernel_rfl) (by kernel_rfl) (fun _ _ _ h => h) (Or.inl ⟨by rfl, ?_⟩) hS0 ?_
        · intro w' ⟨s0, s1, s2, s3⟩; go_simp
        refine wpAnyH_take (i := 5) (v := Value.pointer (some ⟨y, 0, none⟩)) rfl (by kernel_rfl) (by kernel_rfl) (by kernel_rfl) (fun _ _ _ h => h) (Or.inl ⟨by rfl, ?_⟩) hS0 ?_
        · intro w' ⟨s0, s1, s2, s3⟩; go_simp
        refine wpAnyH_take (i := 6) (v := Value.pointer (some ⟨y, 14, none⟩)) rfl (by kernel_rfl) (by kernel_rfl) (by kernel_rfl) (fun _ _ _ h => h) (Or.inl ⟨by rfl, ?_⟩) hS0 ?_
        · intro w' ⟨s0, s1, s2, s3⟩; go_simp
        refine wpAnyH_take (i := 7) (v := Value.int .i64 t.asks) rfl (by kernel_rfl) (by kernel_rfl) (by kernel_rfl) (fun _ _ _ h => h) (Or.inl ⟨by rfl, ?_⟩) hS0 ?_
        · intro w' ⟨s0, s1, s2, s3⟩; go_simp
        simp only [List.getElem_toArray, List.getElem_cons_succ, List.getElem_cons_zero, Act.put, List.setIfInBounds_toArray, List.set_cons_zero, List.set_cons_succ]
        clear hS0
        refine wpAnyH_ready (rs := [8]) (by kernel_rfl) (by simp) ?_
        refine AllReadyH.cons rfl (fun K hK => ?_) AllReadyH.nil
        simp only [List.getElem_toArray, List.getElem_cons_succ, List.getElem_cons_zero]
        go_simp
        refine (HRA.out _ H4D.out.qc.2.1).mono ?_
        rintro _ w5 ⟨a5, d5, rfl, ho5, hb5⟩
        dsimp only at ho5 ⊢
        have H5 := Lib.hid (H4D.out.below hb5)
        have HO5 := Lib.hid ho5
        have HRB5 := Lib.hid ((HRB4.out.below (Below.refl _ W4).drew).below hb5)
        have HX5 := Lib.hid (show Only [y] W1 w5 from ⟨hb5.os.trans HX4.out.os, hb5.tape.trans HX4.out.tape, hb5.output.trans HX4.out.output, Nat.le_trans HX4.out.size hb5.size, fun k hk hn => (hb5.block k (Nat.lt_of_lt_of_le hk HX4.out.size)).trans (HX4.out.block k hk hn)⟩)
        have HBL := Lib.hid (show B9 < W4.drew.heap.size from HRB4.out.lt)
        have HOY := Lib.hid (show (Value.slice a5 gl.length d5).ownBlock ≠ some y from fun hg => by
          have h1 := (HO5.out.lt hg).1
          have h2 := H4D.out.qc.1.lt
          omega)
        clear ho5 hb5 HRA
        refine hK.out _ _ (HSS.out _ H5.out) (fun hS0 => ?_)
        clear hK H4D H4 HX4 HRB4
        refine wpAnyH_take (i := 9) (v := Value.tuple #[.agg #[.int .i64 ge, .slice a5 gl.length d5, .int .i64 gn], .bool gb]) rfl (by kernel_rfl) (by kernel_rfl) (by kernel_rfl) (fun _ _ _ h => h) (Or.inl ⟨by rfl, ?_⟩) hS0 ?_
        · intro w' ⟨s0, s1, s2, s3⟩; go_simp
        refine wpAnyH_take (i := 10) (v := Value.agg #[.int .i64 ge, .slice a5 gl.length d5, .int .i64 gn]) rfl (by kernel_rfl) (by kernel_rfl) (by kernel_rfl) (fun _ _ _ h => h) (Or.inl ⟨by rfl, ?_⟩) hS0 ?_
        · intro w' ⟨s0, s1, s2, s3⟩; go_simp
        refine wpAnyH_take (i := 11) (v := Value.bool gb) rfl (by kernel_rfl) (by kernel_rfl) (by kernel_rfl) (fun _ _ _ h => h) (Or.inl ⟨by rfl, ?_⟩) hS0 ?_
        · intro w' ⟨s0, s1, s2, s3⟩; go_simp
        simp only [List.getElem_toArray, List.getElem_cons_succ, List.getElem_cons_zero, Act.put, List.setIfInBounds_toArray, List.set_cons_zero, List.set_cons_succ]
        obtain ⟨⟨q0, q1, q2⟩, r0, r1, r2⟩ := HRB5.out
        have hne : ¬ y = B9 := hyl
        have hne' : ¬ B9 = y := hyl'
        clear hS0
        refine wpAnyH_ready (rs := [12]) (by kernel_rfl) (by simp) ?_
        refine AllReadyH.cons rfl (fun K hK => ?_) AllReadyH.nil
        simp only [List.getElem_toArray, List.getElem_cons_succ, List.getElem_cons_zero]
        go_simp
        have hkp : ∀ k, k ≠ B9 → (((w5.setCell ⟨B9, 0, none⟩ (.int .i64 ge)).setCell ⟨B9, 1, none⟩ (.slice a5 gl.length d5)).setCell ⟨B9, 2, none⟩ (.int .i64 gn)).heap[k]? = w5.heap[k]? := fun k hk => by
          rw [Below.heap_setCell _ _ _ _ hk, Below.heap_setCell _ _ _ _ hk, Below.heap_setCell _ _ _ _ hk]
        have HQ6 := Lib.hid (H5.out.qc.1.kept (hkp y hyl))
        have HX6 := Lib.hid (((HX5.out.setCell (p := ⟨B9, 0, none⟩) (.inr HBS.out) (.int .i64 ge)).setCell (p := ⟨B9, 1, none⟩) (.inr HBS.out) (.slice a5 gl.length d5)).setCell (p := ⟨B9, 2, none⟩) (.inr HBS.out) (.int .i64 gn))
        have HO6 := Lib.hid ((HO5.out.kept (fun g hg => hkp g (by have := (HO5.out.lt hg).1; have := HBL.out; omega))).mono (Nat.le_trans HBS.out (Nat.le_of_lt HBL.out)))
        have HRB6 : Hid ((((w5.setCell ⟨B9, 0, none⟩ (.int .i64 ge)).setCell ⟨B9, 1, none⟩ (.slice a5 gl.length d5)).setCell ⟨B9, 2, none⟩ (.int .i64 gn)).cell? ⟨B9, 0, none⟩ = some (.int .i64 ge) ∧ (((w5.setCell ⟨B9, 0, none⟩ (.int .i64 ge)).setCell ⟨B9, 1, none⟩ (.slice a5 gl.length d5)).setCell ⟨B9, 2, none⟩ (.int .i64 gn)).cell? ⟨B9, 1, none⟩ = some (.slice a5 gl.length d5) ∧ (((w5.setCell ⟨B9, 0, none⟩ (.int .i64 ge)).setCell ⟨B9, 1, none⟩ (.slice a5 gl.length d5)).setCell ⟨B9, 2, none⟩ (.int .i64 gn)).cell? ⟨B9, 2, none⟩ = some (.int .i64 gn)) := Lib.hid (by refine ⟨?_, ?_, ?_⟩ <;> go_simp)
        have hs6 := HQ6.out.cells
        clear hkp q0 q1 q2 r0 r1 r2 HRB5 H5 HX5 HO5
        generalize World.setCell (World.setCell (World.setCell w5 _ _) _ _) _ _ = W6 at *
        refine hK.out _ _ ⟨hs6.1, hs6.2.1, hs6.2.2.1, hs6.2.2.2.2.2.2.2.2.1⟩ (fun hS0 => ?_)
        clear hK hs6
        refine wpAnyH_ready (rs := [13]) (by kernel_rfl) (by simp) ?_
        refine AllReadyH.cons rfl (fun K hK => ?_) AllReadyH.nil
        simp only [List.getElem_toArray, List.getElem_cons_succ, List.getElem_cons_zero]
        go_simp
        refine hK.out _ _ hS0 (fun hS0 => ?_)
        clear hK hS0
        refine wpAnyH_done (by kernel_rfl) ?_ _
        obtain ⟨p0, p1, p2⟩ := HRB6.out
        cases gb with
        | false =>
          rw [if_neg Bool.false_ne_true] at HE
          have e := HE.out
          subst e
          have HF := Lib.hid (H1.out.qSame HQ6.out rfl rfl HX6.out)
          go_wp2_with fail
          first | exact bodyPost_end (results_none rfl _ _ _) rfl ⟨rfl, _, _, HF.out⟩ | exact bodyPost_ret (results_none rfl _ _ _) rfl ⟨rfl, _, _, HF.out⟩
        | true =>
          rw [if_pos rfl] at HE
          have e := HE.out
          subst e
          have f3 := HQ6.out.free 3
          have f4 := HQ6.out.free 4
          have f5 := HQ6.out.free 5
          have f6 := HQ6.out.free 6
          obtain ⟨c0, c1, c2, c3, c4, c5, c6, c7, c14, c15⟩ := HQ6.out.cells
          have hc9 := (HQ6.out.nextS ⟨ge, gl, gn⟩ (.slice a5 gl.length d5)).chgS true
          dsimp only at hc9 c3 c4 c5 c6
          have HF := Lib.hid (HFIN.out ⟨ge, gl, gn⟩ false a5 d5 _ hc9 (HO6.out.kept (fun g hg => by
            have hg1 : g ≠ y := fun e => HOY.out (e ▸ hg)
            rw [Below.heap_setCell _ _ _ _ hg1, Below.heap_setCell _ _ _ _ hg1, Below.heap_setCell _ _ _ _ hg1, Below.heap_setCell _ _ _ _ hg1])) ((((HX6.out.setCell (p := ⟨y, 3, none⟩) (.inl (by simp)) _).setCell (p := ⟨y, 4, none⟩) (.inl (by simp)) _).setCell (p := ⟨y, 5, none⟩) (.inl (by simp)) _).setCell (p := ⟨y, 6, none⟩) (.inl (by simp)) _))
          clear hc9
          go_wp2_with fail
          first | exact bodyPost_end (results_none rfl _ _ _) rfl ⟨rfl, _, _, HF.out⟩ | exact bodyPost_ret (results_none rfl _ _ _) rfl ⟨rfl, _, _, HF.out⟩
end
end Go.Proofs.YtaacdggjkfmehaaGreatDoor
