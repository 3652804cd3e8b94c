/-
  Contracts of the program, and what they rest on.
-/
import Derived.Test.YtaacdggjkfmehaaGreatDoorM30
namespace Go.Proofs.YtaacdggjkfmehaaGreatDoor
open Go.RowKit Go.Maps Go.Proofs.MapD Go.Proofs.Chest
section
variable {w0 w : World} {x c j R : Nat} {v v' : Value} {b : Option Ro} {rs : List Ro} {a : Ro} {s : Cs} {L : List It}
def wst (R : Nat) (b : Option Ro) (rs : List Ro) (r : Ro) : St := jst R (wrR b rs r).1 (wrR b rs r).2
def wjr (b : Option Ro) (rs : List Ro) (r : Ro) : Jr := jjr (wrR b rs r).1 (wrR b rs r).2
set_option maxRecDepth 100000 in
set_option maxHeartbeats 4000000 in
theorem cwrite_p {e nw : Int} {l : List Int} {u : Value} (h : Sp w0 w (jc c j (jst R b rs) (jjr b rs) :: L)) (hg : JG b rs a) (hR : 2000 ≤ R) (hm : mayR ⟨e, l, nw⟩ = true) (hu : IsAt w u l) (hlib : LibAt w0) :
    Calls Tryz.prog 28 #[.pointer (some ⟨j, 0, none⟩), .agg #[.int .i64 e, u, .int .i64 nw]] w fun x w' => x = .returned (.int .i64 0) ∧ Sp w0 w' (jc c j (wst R b rs ⟨e, l, nw⟩) (wjr b rs ⟨e, l, nw⟩) :: L) := by
  obtain ⟨ad, cap, rfl, _⟩ := hu.shape
  have HB := Lib.hid (ro_below w e (.slice ad l.length cap) nw 24)
  have HRC := Lib.hid (RC.new w e ad l.length cap nw 24)
  have HSP := Lib.hid (h.below HB.out)
  have HTX := Lib.hid (text_p e nw _ l _ (hu.below HB.out) (by have := mayR_len hm; omega) (hlib.below HSP.out.bl) (may_wf hm))
  have HADD := Lib.hid (fun (hs : ¬ 500 < (jtext b rs).size) => wr_add hg hR hm hs)
  have HLAY := Lib.hid (wr_lay hg hR hm)
  have HZ := Lib.hid hg.size
  have HN := Lib.hid hg.len
  have HLIB := Lib.hid hlib
  generalize txtR ⟨e, l, nw⟩ = TX at *
  clear h hg hR hm hu hlib
  by_cases hs : 500 < (jtext b rs).size
  · rw [show wst R b rs ⟨e, l, nw⟩ = jst R (some ⟨e, l, nw⟩) [] by unfold wst wrR; rw [if_pos hs], show wjr b rs ⟨e, l, nw⟩ = jjr (some ⟨e, l, nw⟩) [] by unfold wjr wrR; rw [if_pos hs]]
    have hsz : (500 : Int) < ((jtext b rs).size : Int) := by omega
    clear hs HADD
    go_enter Tryz.func28, Tryz.ntmps28
    go_wp2_with fail
    generalize (w.alloc (.cells #[.int .i64 e, .slice ad l.length cap, .int .i64 nw] 24)) = W at *
    refine (s_long HSP.out).mono ?_
    rintro _ _ ⟨rfl, rfl⟩
    rw [show (jjr b rs).long = (jtext b rs).size from rfl]
    obtain ⟨⟨b0, b1, b2⟩, _⟩ := HRC.out
    go_wp2_with fail
    refine HTX.out.mono ?_
    rintro _ w2 ⟨rfl, hb2⟩
    have HS2 := Lib.hid (HSP.out.below hb2)
    clear hb2
    go_wp2_with fail
    refine (s_lay HS2.out HLIB.out (by rw [jst_one]; decide) TX).mono ?_
    rw [HLAY.out]
    rintro _ w3 ⟨rfl, h3⟩
    have H3 := Lib.hid h3
    clear h3
    go_wp2_with fail
    go_ret
    exact ⟨rfl, H3.out⟩
  · rw [show wst R b rs ⟨e, l, nw⟩ = jst R b (rs ++ [⟨e, l, nw⟩]) by unfold wst wrR; rw [if_neg hs], show wjr b rs ⟨e, l, nw⟩ = jjr b (rs ++ [⟨e, l, nw⟩]) by unfold wjr wrR; rw [if_neg hs]]
    have hsz : ¬ (500 : Int) < ((jtext b rs).size : Int) := by omega
    have HA := Lib.hid (HADD.out hs)
    clear hs HADD
    go_enter Tryz.func28, Tryz.ntmps28
    go_wp2_with fail
    generalize (w.alloc (.cells #[.int .i64 e, .slice ad l.length cap, .int .i64 nw] 24)) = W at *
    refine (s_long HSP.out).mono ?_
    rintro _ _ ⟨rfl, rfl⟩
    rw [show (jjr b rs).long = (jtext b rs).size from rfl]
    obtain ⟨⟨b0, b1, b2⟩, _⟩ := HRC.out
    go_wp2_with fail
    refine HTX.out.mono ?_
    rintro _ w2 ⟨rfl, hb2⟩
    have HS2 := Lib.hid (HSP.out.below hb2)
    clear hb2
    go_wp2_with fail
    refine (s_add HS2.out HLIB.out (by rw [jst_one]; decide) (by show (rs.map txtR).length ≤ 1000000; rw [List.length_map]; have := HN.out; omega) (by show (jtext b rs).size ≤ 1000000000; have := HZ.out; omega) TX true).mono ?_
    rw [HA.out]
    rintro _ w3 ⟨rfl, h3⟩
    have H3 := Lib.hid h3
    clear h3
    go_wp2_with fail
    go_ret
    exact ⟨rfl, H3.out⟩
set_option maxRecDepth 100000 in
set_option maxHeartbeats 4000000 in
theorem keep_p {e nw : Int} {l : List Int} {u : Value} (h : Sp w0 w (cx x j v v' s :: jc c j (jst R b rs) (jjr b rs) :: L)) (hg : JG b rs a) (hR : 2000 ≤ R) (hm : mayR ⟨e, l, nw⟩ = true) (hu : IsAt w u l) (hlib : LibAt w0) :
    Calls Tryz.prog 37 #[.pointer (some ⟨x, 0, none⟩), .agg #[.int .i64 e, u, .int .i64 nw]] w fun y w' => y = .returned (.bool true) ∧ Sp w0 w' (cx x j v v' s :: jc c j (wst R b rs ⟨e, l, nw⟩) (wjr b rs ⟨e, l, nw⟩) :: L) := by
  obtain ⟨ad, cap, rfl, _⟩ := hu.shape
  have hb := ro_below w e (.slice ad l.length cap) nw 24
  have hsp := h.rxNew e nw (.slice ad l.length cap)
  have HW := Lib.hid (fun W (hW : Sp w0 W (rx w.heap.size e (.slice ad l.length cap) nw :: cx x j v v' s :: jc c j (jst R b rs) (jjr b rs) :: L)) (hI : IsAt W (.slice ad l.length cap) l) => cwrite_p hW.rot hg hR hm hI hlib)
  have HI := Lib.hid (fun W (hW : Below w.heap.size w W) => hu.below hW)
  have HB := Lib.hid hb
  have HSP := Lib.hid hsp
  clear h hg hR hm hu hlib hb hsp
  go_enter Tryz.func37, Tryz.ntmps37
  go_wp2_with fail
  generalize (w.alloc (.cells #[.int .i64 e, .slice ad l.length cap, .int .i64 nw] 24)) = W at *
  have HS : Hid (∀ W' L', Sp w0 W' (rx w.heap.size e (.slice ad l.length cap) nw :: cx x j v v' s :: L') → W'.cell? ⟨x, 0, none⟩ = some (.pointer (some ⟨j, 0, none⟩)) ∧ W'.cell? ⟨w.heap.size, 0, none⟩ = some (.int .i64 e) ∧ W'.cell? ⟨w.heap.size, 1, none⟩ = some (.slice ad l.length cap) ∧ W'.cell? ⟨w.heap.size, 2, none⟩ = some (.int .i64 nw)) := Lib.hid (fun W' L' h => by
    obtain ⟨⟨h1, h2, h3⟩, _⟩ := h.rx.rc
    exact ⟨h.swap.ck.1.cells.1, h1, h2, h3⟩)
  have hS0 := HS.out W.drew _ (HSP.out.below (Below.refl _ W).drew)
  refine wp_region_held (S := fun W' => W'.cell? ⟨x, 0, none⟩ = some (.pointer (some ⟨j, 0, none⟩)) ∧ W'.cell? ⟨w.heap.size, 0, none⟩ = some (.int .i64 e) ∧ W'.cell? ⟨w.heap.size, 1, none⟩ = some (.slice ad l.length cap) ∧ W'.cell? ⟨w.heap.size, 2, none⟩ = some (.int .i64 nw)) (by kernel_rfl) ?_
  change wpAnyH _ _ _ _ _ _ _ _ (World.drew _)
  refine wpAnyH_take (i := 0) (v := Value.pointer (some ⟨x, 0, none⟩)) rfl (by kernel_rfl) (by kernel_rfl) (by kernel_rfl) (fun _ _ _ h => h) (Or.inl ⟨by rfl, ?_⟩) hS0 ?_
  · intro w' ⟨s0, s1, s2, s3⟩; go_simp
  refine wpAnyH_take (i := 1) (v := Value.pointer (some ⟨x, 0, none⟩)) rfl (by kernel_rfl) (by kernel_rfl) (by kernel_rfl) (fun _ _ _ h => h) (Or.inl ⟨by rfl, ?_⟩) hS0 ?_
  · intro w' ⟨s0, s1, s2, s3⟩; go_simp
  refine wpAnyH_take (i := 2) (v := Value.pointer (some ⟨x, 0, none⟩)) rfl (by kernel_rfl) (by kernel_rfl) (by kernel_rfl) (fun _ _ _ h => h) (Or.inl ⟨by rfl, ?_⟩) hS0 ?_
  · intro w' ⟨s0, s1, s2, s3⟩; go_simp
  refine wpAnyH_take (i := 3) (v := Value.pointer (some ⟨j, 0, none⟩)) rfl (by kernel_rfl) (by kernel_rfl) (by kernel_rfl) (fun _ _ _ h => h) (Or.inl ⟨by rfl, ?_⟩) hS0 ?_
  · intro w' ⟨s0, s1, s2, s3⟩; go_simp
  refine wpAnyH_take (i := 4) (v := Value.agg #[.int .i64 e, .slice ad l.length cap, .int .i64 nw]) rfl (by kernel_rfl) (by kernel_rfl) (by kernel_rfl) (fun _ _ _ h => h) (Or.inl ⟨by rfl, ?_⟩) hS0 ?_
  · intro w' ⟨s0, s1, s2, s3⟩; go_simp
  simp only [List.getElem_toArray, List.getElem_cons_succ, List.getElem_cons_zero, Act.put, List.setIfInBounds_toArray, List.set_cons_zero, List.set_cons_succ]
  clear hS0
  refine wpAnyH_ready (rs := [5]) (by kernel_rfl) (by simp) ?_
  refine AllReadyH.cons rfl (fun K hK => ?_) AllReadyH.nil
  simp only [List.getElem_toArray, List.getElem_cons_succ, List.getElem_cons_zero]
  go_simp
  refine (HW.out W.drew (HSP.out.below (Below.refl _ W).drew) (HI.out _ HB.out.drew)).mono ?_
  rintro _ w2 ⟨rfl, h2⟩
  have H2 := Lib.hid h2.rot.rot
  clear h2 HW
  refine hK.out _ _ (HS.out _ _ H2.out) (fun _ => ?_)
  clear hK
  refine wpAnyH_ready (rs := [6]) (by kernel_rfl) (by simp) ?_
  refine AllReadyH.cons rfl (fun K hK => ?_) AllReadyH.nil
  simp only [List.getElem_toArray, List.getElem_cons_succ, List.getElem_cons_zero]
  go_simp
  refine hK.out _ _ (HS.out _ _ H2.out) (fun _ => ?_)
  clear hK
  refine wpAnyH_done (by kernel_rfl) ?_ _
  go_wp2_with fail
  go_ret
  exact ⟨rfl, H2.out.drop⟩
end
end Go.Proofs.YtaacdggjkfmehaaGreatDoor
namespace Go.Proofs.YtaacdggjkfmehaaGreatDoor
open Go.RowKit Go.Maps Go.Proofs.MapD Go.Proofs.Chest
def hdK (hd : List Int) (now : Int) (k : Nat) : List Int := List.replicate k now ++ hd.drop k
theorem hdK_step {hd : List Int} (h : hd.length = 6) (now : Int) {k : Nat} (hk : k < 6) : (hdK hd now k).set k now = hdK hd now (k + 1) := by
  obtain ⟨a, b, c, d, e, f, rfl⟩ := six h
  obtain rfl | rfl | rfl | rfl | rfl | rfl : k = 0 ∨ k = 1 ∨ k = 2 ∨ k = 3 ∨ k = 4 ∨ k = 5 := by omega
  all_goals rfl
theorem hdK_all {hd : List Int} (h : hd.length = 6) (now : Int) : hdK hd now 6 = allH now := by
  obtain ⟨a, b, c, d, e, f, rfl⟩ := six h
  rfl
section
variable {w0 w : World} {x j : Nat} {v v' : Value} {s : Cs} {L : List It}
set_option maxRecDepth 100000 in
set_option maxHeartbeats 4000000 in
theorem enter_p {e nw : Int} {l : List Int} {ad : Option Addr} {cap : Nat} (h : CC w x j v v' s) (now : Int) :
    Calls Tryz.prog 38 #[.pointer (some ⟨x, 0, none⟩), .agg #[.int .i64 e, .slice ad l.length cap, .int .i64 nw], .int .i64 now] w fun y w' => y = .returned (.tuple #[]) ∧ CC w' x j (.slice ad l.length cap) (.slice none 0 0) (enterS s ⟨e, l, nw⟩ now) ∧ Only [x] w w' := by
  have HC := Lib.hid h
  have hlt := h.lt
  have hxw : ¬ x = w.heap.size := by omega
  have hxw' : ¬ w.heap.size = x := by omega
  obtain ⟨c0, c1, c2, c3, c4, c5, c6, c7, c8, c9⟩ := h.cells
  have f1 := h.free 1
  have f2 := h.free 2
  have f3 := h.free 3
  have f4 := h.free 4
  have f5 := h.free 5
  have f6 := h.free 6
  have f14 := h.free 14
  clear h
  go_enter Tryz.func38, Tryz.ntmps38
  go_wp2_with fail
  have hcc := ((HC.out.roster ⟨e, l, nw⟩ (.slice ad l.length cap)).next Ro.zero (.slice none 0 0)).asks 0
  have ho : Only [x] w (((((((w.setCell ⟨x, 1, none⟩ (.int .i64 e)).setCell ⟨x, 2, none⟩ (.slice ad l.length cap)).setCell ⟨x, 3, none⟩ (.int .i64 nw)).setCell ⟨x, 4, none⟩ (.int .i64 0)).setCell ⟨x, 5, none⟩ (.slice none 0 0)).setCell ⟨x, 6, none⟩ (.int .i64 0)).setCell ⟨x, 14, none⟩ (.int .i64 0)) := (((((((Only.refl [x] w).setCell (p := ⟨x, 1, none⟩) (.inl (by simp)) _).setCell (p := ⟨x, 2, none⟩) (.inl (by simp)) _).setCell (p := ⟨x, 3, none⟩) (.inl (by simp)) _).setCell (p := ⟨x, 4, none⟩) (.inl (by simp)) _).setCell (p := ⟨x, 5, none⟩) (.inl (by simp)) _).setCell (p := ⟨x, 6, none⟩) (.inl (by simp)) _).setCell (p := ⟨x, 14, none⟩) (.inl (by simp)) _
  have HL0 : Hid (CC (((((((((w.setCell ⟨x, 1, none⟩ (.int .i64 e)).setCell ⟨x, 2, none⟩ (.slice ad l.length cap)).setCell ⟨x, 3, none⟩ (.int .i64 nw)).setCell ⟨x, 4, none⟩ (.int .i64 0)).setCell ⟨x, 5, none⟩ (.slice none 0 0)).setCell ⟨x, 6, none⟩ (.int .i64 0)).setCell ⟨x, 14, none⟩ (.int .i64 0))).alloc (.cells #[.int .i64 e, .slice ad l.length cap, .int .i64 nw] 24)) x j (.slice ad l.length cap) (.slice none 0 0) ⟨⟨e, l, nw⟩, Ro.zero, s.un, hdK s.hd now 0, 0, s.lost⟩ ∧ Only [x] w (((((((((w.setCell ⟨x, 1, none⟩ (.int .i64 e)).setCell ⟨x, 2, none⟩ (.slice ad l.length cap)).setCell ⟨x, 3, none⟩ (.int .i64 nw)).setCell ⟨x, 4, none⟩ (.int .i64 0)).setCell ⟨x, 5, none⟩ (.slice none 0 0)).setCell ⟨x, 6, none⟩ (.int .i64 0)).setCell ⟨x, 14, none⟩ (.int .i64 0))).alloc (.cells #[.int .i64 e, .slice ad l.length cap, .int .i64 nw] 24))) := Lib.hid ⟨CC.kept hcc (heap_alloc_old _ _ (CC.lt hcc)), ho.alloc _⟩
  have HH := Lib.hid HC.out.2
  clear hcc ho c0 c1 c2 c3 c4 c5 c6 c7 c8 c9 f1 f2 f3 f4 f5 f6 f14 hlt hxw hxw' HC
  generalize (((((((((w.setCell ⟨x, 1, none⟩ (.int .i64 e)).setCell ⟨x, 2, none⟩ (.slice ad l.length cap)).setCell ⟨x, 3, none⟩ (.int .i64 nw)).setCell ⟨x, 4, none⟩ (.int .i64 0)).setCell ⟨x, 5, none⟩ (.slice none 0 0)).setCell ⟨x, 6, none⟩ (.int .i64 0)).setCell ⟨x, 14, none⟩ (.int .i64 0))).alloc (.cells #[.int .i64 e, .slice ad l.length cap, .int .i64 nw] 24)) = W1 at *
  go_loopw [6, 18] (fun _ v18 wr => ∃ (k : Nat), v18 = .int .i64 k ∧ k ≤ 6 ∧ Hid (CC wr x j (.slice ad l.length cap) (.slice none 0 0) ⟨⟨e, l, nw⟩, Ro.zero, s.un, hdK s.hd now k, 0, s.lost⟩ ∧ Only [x] w wr)) (fun _ v18 _ => 6 - (intOf v18).toNat)
  case atStart => exact ⟨0, rfl, Nat.zero_le _, HL0⟩
  case round =>
    obtain ⟨k, rfl, hk, HR⟩ := hrel
    by_cases hlt : k < 6
    · have hltz : (k : Int) < 6 := by omega
      have d0 := HR.out.1.hd hlt
      have f0 := HR.out.1.free (8 + k)
      have hn := (HR.out.1.hear hlt now)
      rw [hdK_step HH.out now hlt] at hn
      have HN : Hid (CC (wr.setCell ⟨x, 8 + k, none⟩ (.int .i64 now)) x j (.slice ad l.length cap) (.slice none 0 0) ⟨⟨e, l, nw⟩, Ro.zero, s.un, hdK s.hd now (k + 1), 0, s.lost⟩ ∧ Only [x] w (wr.setCell ⟨x, 8 + k, none⟩ (.int .i64 now))) := Lib.hid ⟨hn, HR.out.2.setCell (p := ⟨x, 8 + k, none⟩) (.inl (by simp)) _⟩
      clear hn HR
      go_wp2_with fail
      go_roundw
      case rel => exact ⟨k + 1, by go_num, by omega, HN⟩
      case measure => simp [intOf]; omega
    · have hltz : ¬ (k : Int) < 6 := by omega
      obtain rfl : k = 6 := by omega
      rw [hdK_all HH.out now] at HR
      go_wp2_with fail
      first | exact bodyPost_end (results_none rfl _ _ _) rfl ⟨rfl, HR.out.1, HR.out.2⟩ | exact bodyPost_ret (results_none rfl _ _ _) rfl ⟨rfl, HR.out.1, HR.out.2⟩
theorem Only.isAt {w w' : World} {u : Value} {l : List Int} (h : Only [x] w w') (hu : IsAt w u l) (hn : u.ownBlock ≠ some x) : IsAt w' u l :=
  hu.keep (fun g hg => h.block g (hu.lt hg) (by simp; rintro rfl; exact hn hg))
set_option maxRecDepth 100000 in
set_option maxHeartbeats 4000000 in
theorem begin_c {e nw : Int} {l : List Int} {u : Value} (hu : IsAt w u l) (now un : Int) :
    Calls Tryz.prog 25 #[.pointer (some ⟨j, 0, none⟩), .agg #[.int .i64 e, u, .int .i64 nw], .int .i64 now, .int .i64 un] w fun y w' => ∃ x, y = .returned (.pointer (some ⟨x, 0, none⟩)) ∧ CC w' x j u (.slice none 0 0) (beginS ⟨e, l, nw⟩ now un) ∧ IsAt w' u l ∧ w.heap.size ≤ x ∧ Below w.heap.size w w' := by
  obtain ⟨ad, cap, rfl, _⟩ := hu.shape
  have hW : ∀ W, W = ((w.alloc (.cells #[.int .i64 e, .slice ad l.length cap, .int .i64 nw] 24)).alloc (.cells #[.pointer (some ⟨j, 0, none⟩), .int .i64 0, .slice none 0 0, .int .i64 0, .int .i64 0, .slice none 0 0, .int .i64 0, .int .i64 un, .int .i64 0, .int .i64 0, .int .i64 0, .int .i64 0, .int .i64 0, .int .i64 0, .int .i64 0, .bool false] 78)) → CC W (w.heap.size + 1) j (.slice none 0 0) (.slice none 0 0) ⟨Ro.zero, Ro.zero, un, [0, 0, 0, 0, 0, 0], 0, false⟩ ∧ Below w.heap.size w W := by
    rintro _ rfl
    refine ⟨⟨?_, rfl⟩, ((Below.refl _ w).alloc (Nat.le_refl _) _).alloc (by simp) _⟩
    have := heap_alloc_new (w.alloc (.cells #[.int .i64 e, .slice ad l.length cap, .int .i64 nw] 24)) (.cells #[.pointer (some ⟨j, 0, none⟩), .int .i64 0, .slice none 0 0, .int .i64 0, .int .i64 0, .slice none 0 0, .int .i64 0, .int .i64 un, .int .i64 0, .int .i64 0, .int .i64 0, .int .i64 0, .int .i64 0, .int .i64 0, .int .i64 0, .bool false] 78)
    rw [show (w.alloc (.cells #[.int .i64 e, .slice ad l.length cap, .int .i64 nw] 24)).heap.size = w.heap.size + 1 by simp] at this
    exact this
  have HW := Lib.hid hW
  have HU := Lib.hid hu
  clear hu hW
  go_enter Tryz.func25, Tryz.ntmps25
  go_wp2_with fail
  generalize hgen : ((w.alloc (.cells #[.int .i64 e, .slice ad l.length cap, .int .i64 nw] 24)).alloc (.cells #[.pointer (some ⟨j, 0, none⟩), .int .i64 0, .slice none 0 0, .int .i64 0, .int .i64 0, .slice none 0 0, .int .i64 0, .int .i64 un, .int .i64 0, .int .i64 0, .int .i64 0, .int .i64 0, .int .i64 0, .int .i64 0, .int .i64 0, .bool false] 78)) = W
  obtain ⟨hcc, hbl⟩ := HW.out W hgen.symm
  clear hgen HW
  have HB := Lib.hid hbl
  refine (enter_p (e := e) (nw := nw) (l := l) (ad := ad) (cap := cap) hcc now).mono ?_
  rintro _ w2 ⟨rfl, h2, ho2⟩
  have HC2 := Lib.hid h2
  have HO2 := Lib.hid ho2
  clear h2 ho2 hcc hbl
  go_wp2_with fail
  go_ret
  have hi := HO2.out.isAt (HU.out.below HB.out) (fun hg => by have := HU.out.lt hg; omega)
  exact ⟨_, rfl, HC2.out, hi, by omega, HB.out.trans (HO2.out.below (Nat.le_trans HB.out.size (Nat.le_refl _)) (by simp))⟩
set_option maxRecDepth 100000 in
theorem down_p (h : CC w x j v v' s) : Calls Tryz.prog 32 #[.pointer (some ⟨x, 0, none⟩)] w fun y w' => y = .returned (.bool false) ∧ w = w' := by
  obtain ⟨c0, _⟩ := h.cells
  clear h
  go_enter Tryz.func32, Tryz.ntmps32
  go_wp2_with fail
  go_ret
  exact ⟨rfl, rfl⟩
set_option maxRecDepth 100000 in
theorem changing_p (h : CC w x j v v' s) : Calls Tryz.prog 18 #[.pointer (some ⟨x, 0, none⟩)] w fun y w' => y = .returned (.bool s.chg) ∧ w = w' := by
  obtain ⟨c0, c1, c2, c3, c4, c5, c6, c7, c8, c9⟩ := h.cells
  clear h
  unfold Cs.chg
  go_enter Tryz.func18, Tryz.ntmps18
  go_wp2_with fail
  go_ret
  exact ⟨rfl, rfl⟩
set_option maxRecDepth 100000 in
theorem until_p (h : CC w x j v v' s) : Calls Tryz.prog 19 #[.pointer (some ⟨x, 0, none⟩)] w fun y w' => y = .returned (.int .i64 s.un) ∧ w = w' := by
  obtain ⟨c0, c1, c2, c3, c4, c5, c6, c7, c8, c9⟩ := h.cells
  clear h
  go_enter Tryz.func19, Tryz.ntmps19
  go_wp2_with fail
  go_ret
  exact ⟨rfl, rfl⟩
set_option maxRecDepth 100000 in
theorem lost_p (h : CC w x j v v' s) : Calls Tryz.prog 20 #[.pointer (some ⟨x, 0, none⟩)] w fun y w' => y = .returned (.bool s.lost) ∧ w = w' := by
  have HD := Lib.hid (down_p h)
  obtain ⟨c0, c1, c2, c3, c4, c5, c6, c7, c8, c9⟩ := h.cells
  clear h
  go_enter Tryz.func20, Tryz.ntmps20
  go_wp2_with fail
  refine HD.out.mono ?_
  rintro _ _ ⟨rfl, rfl⟩
  go_wp2_with fail
  go_ret
  exact ⟨rfl, rfl⟩
set_option maxRecDepth 100000 in
set_option maxHeartbeats 4000000 in
theorem croster_p (h : CC w x j v v' s) (hv : IsAt w v s.r.l) (hn : s.r.l.length ≤ 1000) :
    Calls Tryz.prog 17 #[.pointer (some ⟨x, 0, none⟩)] w fun y w' => ∃ ad cap, y = .returned (.agg #[.int .i64 s.r.ep, .slice ad s.r.l.length cap, .int .i64 s.r.nw]) ∧ IOwn w' w.heap.size (.slice ad s.r.l.length cap) s.r.l ∧ Below w.heap.size w w' := by
  obtain ⟨ad, cap, rfl, _⟩ := hv.shape
  have hb : Below w.heap.size w (w.alloc (.cells #[.int .i64 0, .slice none 0 0, .int .i64 0] 24)) := (Below.refl _ _).alloc (Nat.le_refl _) _
  have HB := Lib.hid hb
  have HZ := Lib.hid (RC.new w 0 none 0 0 0 24)
  have HC := Lib.hid (ccopied_p s.r.ep s.r.nw _ s.r.l _ (hv.below hb) (by omega))
  have hlt := h.lt
  have hlt' : x < w.heap.size + 1 := by omega
  have HS : Hid ((w.alloc (.cells #[.int .i64 0, .slice none 0 0, .int .i64 0] 24)).heap.size = w.heap.size + 1) := Lib.hid (by simp)
  obtain ⟨c0, c1, c2, c3, c4, c5, c6, c7, c8, c9⟩ := h.cells
  clear h hv hn hb
  generalize s.r.l = l at *
  generalize s.r.ep = e at *
  generalize s.r.nw = nw at *
  go_enter Tryz.func17, Tryz.ntmps17
  go_wp2_with fail
  generalize (w.alloc (.cells #[.int .i64 0, .slice none 0 0, .int .i64 0] 24)) = W at *
  clear c0 c1 c2 c3 c4 c5 c6 c7 c8 c9
  refine HC.out.mono ?_
  rintro _ w2 ⟨a2, c2, rfl, ho, hb2⟩
  have HZ2 := Lib.hid (HZ.out.below hb2)
  have HO := Lib.hid ho
  have HB2 := Lib.hid (HB.out.trans (hb2.mono HB.out.size))
  clear ho hb2 HC HZ hlt hlt'
  obtain ⟨⟨d0, d1, d2⟩, f0, f1, f2⟩ := HZ2.out
  go_wp2_with fail
  obtain ⟨⟨t0, t1, t2⟩, _⟩ := rc_put HZ2.out e nw a2 l.length c2
  refine bodyPost_ret (v := .agg #[.int .i64 e, .slice a2 l.length c2, .int .i64 nw]) (by simp [results, Tryz.results17, go_sem, t0, t1, t2]) rfl ⟨a2, c2, rfl, (HO.out.mono (by have := HS.out; omega)).kept (fun g hg => ?_), ((HB2.out.setCell (p := ⟨w.heap.size, 0, none⟩) (Nat.le_refl _) _).setCell (p := ⟨w.heap.size, 1, none⟩) (Nat.le_refl _) _).setCell (p := ⟨w.heap.size, 2, none⟩) (Nat.le_refl _) _⟩
  have h1 := (HO.out.lt hg).1
  have h2 := HS.out
  have h3 : g ≠ w.heap.size := by omega
  rw [Below.heap_setCell _ _ _ _ h3, Below.heap_setCell _ _ _ _ h3, Below.heap_setCell _ _ _ _ h3]
end
end Go.Proofs.YtaacdggjkfmehaaGreatDoor
