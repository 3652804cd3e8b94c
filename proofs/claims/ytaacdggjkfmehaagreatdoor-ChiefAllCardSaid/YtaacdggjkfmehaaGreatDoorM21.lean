/-
  Contracts of the program, and what they rest on.
-/
import Derived.Laws.Rows
import Derived.Test.YtaacdggjkfmehaaGreatDoorM20
namespace Go.Proofs.YtaacdggjkfmehaaGreatDoor
open Go.RowKit Go.Maps Go.Proofs.MapD Go.Proofs.Chest
section
variable {w0 w : World} {x c j R : Nat} {v v' : Value} {b : Option Ro} {rs : List Ro} {a : Ro} {s : Cs} {L : List It}
def wst (R : Nat) (b : Option Ro) (rs : List Ro) (r : Ro) : St := jst R (wrR b rs r).1 (wrR b rs r).2
def wjr (b : Option Ro) (rs : List Ro) (r : Ro) : Jr := jjr (wrR b rs r).1 (wrR b rs r).2
set_option maxRecDepth 100000 in
set_option maxHeartbeats 4000000 in
theorem cwrite_p {e nw : Int} {l : List Int} {u : Value} (h : Sp w0 w (jc c j (jst R b rs) (jjr b rs) :: L)) (hg : JG b rs a) (hR : 2000 ≤ R) (hm : mayR ⟨e, l, nw⟩ = true) (hu : IsAt w u l) (hlib : LibAt w0) :
    Calls Tryz.prog 28 #[.pointer (some ⟨j, 0, none⟩), .agg #[.int .i64 e, u, .int .i64 nw]] w fun x w' => x = .returned (.int .i64 0) ∧ Sp w0 w' (jc c j (wst R b rs ⟨e, l, nw⟩) (wjr b rs ⟨e, l, nw⟩) :: L) := by
  obtain ⟨ad, cap, rfl, _⟩ := hu.shape
  have HB := Lib.hid (ro_below w e (.slice ad l.length cap) nw 24)
  have HRC := Lib.hid (RC.new w e ad l.length cap nw 24)
  have HSP := Lib.hid (h.below HB.out)
  have HTX := Lib.hid (text_p e nw _ l _ (hu.below HB.out) (by have := mayR_len hm; omega) (hlib.below HSP.out.bl) (may_wf hm))
  have HADD := Lib.hid (fun (hs : ¬ 500 < (jtext b rs).size) => wr_add hg hR hm hs)
  have HLAY := Lib.hid (wr_lay hg hR hm)
  have HZ := Lib.hid hg.size
  have HN := Lib.hid hg.len
  have HLIB := Lib.hid hlib
  generalize txtR ⟨e, l, nw⟩ = TX at *
  clear h hg hR hm hu hlib
  by_cases hs : 500 < (jtext b rs).size
  · rw [show wst R b rs ⟨e, l, nw⟩ = jst R (some ⟨e, l, nw⟩) [] by unfold wst wrR; rw [if_pos hs], show wjr b rs ⟨e, l, nw⟩ = jjr (some ⟨e, l, nw⟩) [] by unfold wjr wrR; rw [if_pos hs]]
    have hsz : (500 : Int) < ((jtext b rs).size : Int) := by omega
    clear hs HADD
    go_enter Tryz.func28, Tryz.ntmps28
    go_wp2_with fail
    generalize (w.alloc (.cells #[.int .i64 e, .slice ad l.length cap, .int .i64 nw] 24)) = W at *
    refine (s_long HSP.out).mono ?_
    rintro _ _ ⟨rfl, rfl⟩
    rw [show (jjr b rs).long = (jtext b rs).size from rfl]
    obtain ⟨⟨b0, b1, b2⟩, _⟩ := HRC.out
    go_wp2_with fail
    refine HTX.out.mono ?_
    rintro _ w2 ⟨rfl, hb2⟩
    have HS2 := Lib.hid (HSP.out.below hb2)
    clear hb2
    go_wp2_with fail
    refine (s_lay HS2.out HLIB.out (by rw [jst_one]; decide) TX).mono ?_
    rw [HLAY.out]
    rintro _ w3 ⟨rfl, h3⟩
    have H3 := Lib.hid h3
    clear h3
    go_wp2_with fail
    go_ret
    exact ⟨rfl, H3.out⟩
  · rw [show wst R b rs ⟨e, l, nw⟩ = jst R b (rs ++ [⟨e, l, nw⟩]) by unfold wst wrR; rw [if_neg hs], show wjr b rs ⟨e, l, nw⟩ = jjr b (rs ++ [⟨e, l, nw⟩]) by unfold wjr wrR; rw [if_neg hs]]
    have hsz : ¬ (500 : Int) < ((jtext b rs).size : Int) := by omega
    have HA := Lib.hid (HADD.out hs)
    clear hs HADD
    go_enter Tryz.func28, Tryz.ntmps28
    go_wp2_with fail
    generalize (w.alloc (.cells #[.int .i64 e, .slice ad l.length cap, .int .i64 nw] 24)) = W at *
    refine (s_long HSP.out).mono ?_
    rintro _ _ ⟨rfl, rfl⟩
    rw [show (jjr b rs).long = (jtext b rs).size from rfl]
    obtain ⟨⟨b0, b1, b2⟩, _⟩ := HRC.out
    go_wp2_with fail
    refine HTX.out.mono ?_
    rintro _ w2 ⟨rfl, hb2⟩
    have HS2 := Lib.hid (HSP.out.below hb2)
    clear hb2
    go_wp2_with fail
    refine (s_add HS2.out HLIB.out (by rw [jst_one]; decide) (by show (rs.map txtR).length ≤ 1000000; rw [List.length_map]; have := HN.out; omega) (by show (jtext b rs).size ≤ 1000000000; have := HZ.out; omega) TX true).mono ?_
    rw [HA.out]
    rintro _ w3 ⟨rfl, h3⟩
    have H3 := Lib.hid h3
    clear h3
    go_wp2_with fail
    go_ret
    exact ⟨rfl, H3.out⟩
set_option maxRecDepth 100000 in
set_option maxHeartbeats 4000000 in
theorem keep_p {e nw : Int} {l : List Int} {u : Value} (h : Sp w0 w (cx x j v v' s :: jc c j (jst R b rs) (jjr b rs) :: L)) (hg : JG b rs a) (hR : 2000 ≤ R) (hm : mayR ⟨e, l, nw⟩ = true) (hu : IsAt w u l) (hlib : LibAt w0) :
    Calls Tryz.prog 37 #[.pointer (some ⟨x, 0, none⟩), .agg #[.int .i64 e, u, .int .i64 nw]] w fun y w' => y = .returned (.bool true) ∧ Sp w0 w' (cx x j v v' s :: jc c j (wst R b rs ⟨e, l, nw⟩) (wjr b rs ⟨e, l, nw⟩) :: L) := by
  obtain ⟨ad, cap, rfl, _⟩ := hu.shape
  have hb := ro_below w e (.slice ad l.length cap) nw 24
  have hsp := h.rxNew e nw (.slice ad l.length cap)
  have HW := Lib.hid (fun W (hW : Sp w0 W (rx w.heap.size e (.slice ad l.length cap) nw :: cx x j v v' s :: jc c j (jst R b rs) (jjr b rs) :: L)) (hI : IsAt W (.slice ad l.length cap) l) => cwrite_p hW.rot hg hR hm hI hlib)
  have HI := Lib.hid (fun W (hW : Below w.heap.size w W) => hu.below hW)
  have HB := Lib.hid hb
  have HSP := Lib.hid hsp
  clear h hg hR hm hu hlib hb hsp
  go_enter Tryz.func37, Tryz.ntmps37
  go_wp2_with fail
  generalize (w.alloc (.cells #[.int .i64 e, .slice ad l.length cap, .int .i64 nw] 24)) = W at *
  have HS : Hid (∀ W' L', Sp w0 W' (rx w.heap.size e (.slice ad l.length cap) nw :: cx x j v v' s :: L') → W'.cell? ⟨x, 0, none⟩ = some (.pointer (some ⟨j, 0, none⟩)) ∧ W'.cell? ⟨w.heap.size, 0, none⟩ = some (.int .i64 e) ∧ W'.cell? ⟨w.heap.size, 1, none⟩ = some (.slice ad l.length cap) ∧ W'.cell? ⟨w.heap.size, 2, none⟩ = some (.int .i64 nw)) := Lib.hid (fun W' L' h => by
    obtain ⟨⟨h1, h2, h3⟩, _⟩ := h.rx.rc
    exact ⟨h.swap.ck.1.cells.1, h1, h2, h3⟩)
  have hS0 := HS.out W.drew _ (HSP.out.below (Below.refl _ W).drew)
  refine wp_region_held (S := fun W' => W'.cell? ⟨x, 0, none⟩ = some (.pointer (some ⟨j, 0, none⟩)) ∧ W'.cell? ⟨w.heap.size, 0, none⟩ = some (.int .i64 e) ∧ W'.cell? ⟨w.heap.size, 1, none⟩ = some (.slice ad l.length cap) ∧ W'.cell? ⟨w.heap.size, 2, none⟩ = some (.int .i64 nw)) (by kernel_rfl) ?_
  change wpAnyH _ _ _ _ _ _ _ _ (World.drew _)
  refine wpAnyH_take (i := 0) (v := Value.pointer (some ⟨x, 0, none⟩)) rfl (by kernel_rfl) (by kernel_rfl) (by kernel_rfl) (fun _ _ _ h => h) (Or.inl ⟨by rfl, ?_⟩) hS0 ?_
  · intro w' ⟨s0, s1, s2, s3⟩; go_simp
  refine wpAnyH_take (i := 1) (v := Value.pointer (some ⟨x, 0, none⟩)) rfl (by kernel_rfl) (by kernel_rfl) (by kernel_rfl) (fun _ _ _ h => h) (Or.inl ⟨by rfl, ?_⟩) hS0 ?_
  · intro w' ⟨s0, s1, s2, s3⟩; go_simp
  refine wpAnyH_take (i := 2) (v := Value.pointer (some ⟨x, 0, none⟩)) rfl (by kernel_rfl) (by kernel_rfl) (by kernel_rfl) (fun _ _ _ h => h) (Or.inl ⟨by rfl, ?_⟩) hS0 ?_
  · intro w' ⟨s0, s1, s2, s3⟩; go_simp
  refine wpAnyH_take (i := 3) (v := Value.pointer (some ⟨j, 0, none⟩)) rfl (by kernel_rfl) (by kernel_rfl) (by kernel_rfl) (fun _ _ _ h => h) (Or.inl ⟨by rfl, ?_⟩) hS0 ?_
  · intro w' ⟨s0, s1, s2, s3⟩; go_simp
  refine wpAnyH_take (i := 4) (v := Value.agg #[.int .i64 e, .slice ad l.length cap, .int .i64 nw]) rfl (by kernel_rfl) (by kernel_rfl) (by kernel_rfl) (fun _ _ _ h => h) (Or.inl ⟨by rfl, ?_⟩) hS0 ?_
  · intro w' ⟨s0, s1, s2, s3⟩; go_simp
  simp only [List.getElem_toArray, List.getElem_cons_succ, List.getElem_cons_zero, Act.put, List.setIfInBounds_toArray, List.set_cons_zero, List.set_cons_succ]
  clear hS0
  refine wpAnyH_ready (rs := [5]) (by kernel_rfl) (by simp) ?_
  refine AllReadyH.cons rfl (fun K hK => ?_) AllReadyH.nil
  simp only [List.getElem_toArray, List.getElem_cons_succ, List.getElem_cons_zero]
  go_simp
  refine (HW.out W.drew (HSP.out.below (Below.refl _ W).drew) (HI.out _ HB.out.drew)).mono ?_
  rintro _ w2 ⟨rfl, h2⟩
  have H2 := Lib.hid h2.rot.rot
  clear h2 HW
  refine hK.out _ _ (HS.out _ _ H2.out) (fun _ => ?_)
  clear hK
  refine wpAnyH_ready (rs := [6]) (by kernel_rfl) (by simp) ?_
  refine AllReadyH.cons rfl (fun K hK => ?_) AllReadyH.nil
  simp only [List.getElem_toArray, List.getElem_cons_succ, List.getElem_cons_zero]
  go_simp
  refine hK.out _ _ (HS.out _ _ H2.out) (fun _ => ?_)
  clear hK
  refine wpAnyH_done (by kernel_rfl) ?_ _
  go_wp2_with fail
  go_ret
  exact ⟨rfl, H2.out.drop⟩
end
end Go.Proofs.YtaacdggjkfmehaaGreatDoor
namespace Go.Proofs.YtaacdggjkfmehaaGreatDoor
open Go.RowKit Go.Maps Go.Proofs.MapD Go.Proofs.Chest
def hdK (hd : List Int) (now : Int) (k : Nat) : List Int := List.replicate k now ++ hd.drop k
theorem hdK_step {hd : List Int} (h : hd.length = 6) (now : Int) {k : Nat} (hk : k < 6) : (hdK hd now k).set k now = hdK hd now (k + 1) := by
  obtain ⟨a, b, c, d, e, f, rfl⟩ := six h
  obtain rfl | rfl | rfl | rfl | rfl | rfl : k = 0 ∨ k = 1 ∨ k = 2 ∨ k = 3 ∨ k = 4 ∨ k = 5 := by omega
  all_goals rfl
theorem hdK_all {hd : List Int} (h : hd.length = 6) (now : Int) : hdK hd now 6 = allH now := by
  obtain ⟨a, b, c, d, e, f, rfl⟩ := six h
  rfl
section
variable {w0 w : World} {x j : Nat} {v v' : Value} {s : Cs} {L : List It}
set_option maxRecDepth 100000 in
set_option maxHeartbeats 4000000 in
theorem enter_p {e nw : Int} {l : List Int} {ad : Option Addr} {cap : Nat} (h : CC w x j v v' s) (now : Int) :
    Calls Tryz.prog 38 #[.pointer (some ⟨x, 0, none⟩), .agg #[.int .i64 e, .slice ad l.length cap, .int .i64 nw], .int .i64 now] w fun y w' => y = .returned (.tuple #[]) ∧ CC w' x j (.slice ad l.length cap) (.slice none 0 0) (enterS s ⟨e, l, nw⟩ now) ∧ Only [x] w w' := by
  have HC := Lib.hid h
  have hlt := h.lt
  have hxw : ¬ x = w.heap.size := by omega
  have hxw' : ¬ w.heap.size = x := by omega
  obtain ⟨c0, c1, c2, c3, c4, c5, c6, c7, c8, c9⟩ := h.cells
  have f1 := h.free 1
  have f2 := h.free 2
  have f3 := h.free 3
  have f4 := h.free 4
  have f5 := h.free 5
  have f6 := h.free 6
  have f14 := h.free 14
  clear h
  go_enter Tryz.func38, Tryz.ntmps38
  go_wp2_with fail
  have hcc := ((HC.out.roster ⟨e, l, nw⟩ (.slice ad l.length cap)).next Ro.zero (.slice none 0 0)).asks 0
  have ho : Only [x] w (((((((w.setCell ⟨x, 1, none⟩ (.int .i64 e)).setCell ⟨x, 2, none⟩ (.slice ad l.length cap)).setCell ⟨x, 3, none⟩ (.int .i64 nw)).setCell ⟨x, 4, none⟩ (.int .i64 0)).setCell ⟨x, 5, none⟩ (.slice none 0 0)).setCell ⟨x, 6, none⟩ (.int .i64 0)).setCell ⟨x, 14, none⟩ (.int .i64 0)) := (((((((Only.refl [x] w).setCell (p := ⟨x, 1, none⟩) (.inl (by simp)) _).setCell (p := ⟨x, 2, none⟩) (.inl (by simp)) _).setCell (p := ⟨x, 3, none⟩) (.inl (by simp)) _).setCell (p := ⟨x, 4, none⟩) (.inl (by simp)) _).setCell (p := ⟨x, 5, none⟩) (.inl (by simp)) _).setCell (p := ⟨x, 6, none⟩) (.inl (by simp)) _).setCell (p := ⟨x, 14, none⟩) (.inl (by simp)) _
  have HL0 : Hid (CC (((((((((w.setCell ⟨x, 1, none⟩ (.int .i64 e)).setCell ⟨x, 2, none⟩ (.slice ad l.length cap)).setCell ⟨x, 3, none⟩ (.int .i64 nw)).setCell ⟨x, 4, none⟩ (.int .i64 0)).setCell ⟨x, 5, none⟩ (.slice none 0 0)).setCell ⟨x, 6, none⟩ (.int .i64 0)).setCell ⟨x, 14, none⟩ (.int .i64 0))).alloc (.cells #[.int .i64 e, .slice ad l.length cap, .int .i64 nw] 24)) x j (.slice ad l.length cap) (.slice none 0 0) ⟨⟨e, l, nw⟩, Ro.zero, s.un, hdK s.hd now 0, 0, s.lost⟩ ∧ Only [x] w (((((((((w.setCell ⟨x, 1, none⟩ (.int .i64 e)).setCell ⟨x, 2, none⟩ (.slice ad l.length cap)).setCell ⟨x, 3, none⟩ (.int .i64 nw)).setCell ⟨x, 4, none⟩ (.int .i64 0)).setCell ⟨x, 5, none⟩ (.slice none 0 0)).setCell ⟨x, 6, none⟩ (.int .i64 0)).setCell ⟨x, 14, none⟩ (.int .i64 0))).alloc (.cells #[.int .i64 e, .slice ad l.length cap, .int .i64 nw] 24))) := Lib.hid ⟨CC.kept hcc (heap_alloc_old _ _ (CC.lt hcc)), ho.alloc _⟩
  have HH := Lib.hid HC.out.2
  clear hcc ho c0 c1 c2 c3 c4 c5 c6 c7 c8 c9 f1 f2 f3 f4 f5 f6 f14 hlt hxw hxw' HC
  generalize (((((((((w.setCell ⟨x, 1, none⟩ (.int .i64 e)).setCell ⟨x, 2, none⟩ (.slice ad l.length cap)).setCell ⟨x, 3, none⟩ (.int .i64 nw)).setCell ⟨x, 4, none⟩ (.int .i64 0)).setCell ⟨x, 5, none⟩ (.slice none 0 0)).setCell ⟨x, 6, none⟩ (.int .i64 0)).setCell ⟨x, 14, none⟩ (.int .i64 0))).alloc (.cells #[.int .i64 e, .slice ad l.length cap, .int .i64 nw] 24)) = W1 at *
  go_loopw [6, 18] (fun _ v18 wr => ∃ (k : Nat), v18 = .int .i64 k ∧ k ≤ 6 ∧ Hid (CC wr x j (.slice ad l.length cap) (.slice none 0 0) ⟨⟨e, l, nw⟩, Ro.zero, s.un, hdK s.hd now k, 0, s.lost⟩ ∧ Only [x] w wr)) (fun _ v18 _ => 6 - (intOf v18).toNat)
  case atStart => exact ⟨0, rfl, Nat.zero_le _, HL0⟩
  case round =>
    obtain ⟨k, rfl, hk, HR⟩ := hrel
    by_cases hlt : k < 6
    · have hltz : (k : Int) < 6 := by omega
      have d0 := HR.out.1.hd hlt
      have f0 := HR.out.1.free (8 + k)
      have hn := (HR.out.1.hear hlt now)
      rw [hdK_step HH.out now hlt] at hn
      have HN : Hid (CC (wr.setCell ⟨x, 8 + k, none⟩ (.int .i64 now)) x j (.slice ad l.length cap) (.slice none 0 0) ⟨⟨e, l, nw⟩, Ro.zero, s.un, hdK s.hd now (k + 1), 0, s.lost⟩ ∧ Only [x] w (wr.setCell ⟨x, 8 + k, none⟩ (.int .i64 now))) := Lib.hid ⟨hn, HR.out.2.setCell (p := ⟨x, 8 + k, none⟩) (.inl (by simp)) _⟩
      clear hn HR
      go_wp2_with fail
      go_roundw
      case rel => exact ⟨k + 1, by go_num, by omega, HN⟩
      case measure => simp [intOf]; omega
    · have hltz : ¬ (k : Int) < 6 := by omega
      obtain rfl : k = 6 := by omega
      rw [hdK_all HH.out now] at HR
      go_wp2_with fail
      first | exact bodyPost_end (results_none rfl _ _ _) rfl ⟨rfl, HR.out.1, HR.out.2⟩ | exact bodyPost_ret (results_none rfl _ _ _) rfl ⟨rfl, HR.out.1, HR.out.2⟩
theorem Only.isAt {w w' : World} {u : Value} {l : List Int} (h : Only [x] w w') (hu : IsAt w u l) (hn : u.ownBlock ≠ some x) : IsAt w' u l :=
  hu.keep (fun g hg => h.block g (hu.lt hg) (by simp; rintro rfl; exact hn hg))
set_option maxRecDepth 100000 in
set_option maxHeartbeats 4000000 in
theorem begin_c {e nw : Int} {l : List Int} {u : Value} (hu : IsAt w u l) (now un : Int) :
    Calls Tryz.prog 25 #[.pointer (some ⟨j, 0, none⟩), .agg #[.int .i64 e, u, .int .i64 nw], .int .i64 now, .int .i64 un] w fun y w' => ∃ x, y = .returned (.pointer (some ⟨x, 0, none⟩)) ∧ CC w' x j u (.slice none 0 0) (beginS ⟨e, l, nw⟩ now un) ∧ IsAt w' u l ∧ w.heap.size ≤ x ∧ Below w.heap.size w w' := by
  obtain ⟨ad, cap, rfl, _⟩ := hu.shape
  have hW : ∀ W, W = ((w.alloc (.cells #[.int .i64 e, .slice ad l.length cap, .int .i64 nw] 24)).alloc (.cells #[.pointer (some ⟨j, 0, none⟩), .int .i64 0, .slice none 0 0, .int .i64 0, .int .i64 0, .slice none 0 0, .int .i64 0, .int .i64 un, .int .i64 0, .int .i64 0, .int .i64 0, .int .i64 0, .int .i64 0, .int .i64 0, .int .i64 0, .bool false] 78)) → CC W (w.heap.size + 1) j (.slice none 0 0) (.slice none 0 0) ⟨Ro.zero, Ro.zero, un, [0, 0, 0, 0, 0, 0], 0, false⟩ ∧ Below w.heap.size w W := by
    rintro _ rfl
    refine ⟨⟨?_, rfl⟩, ((Below.refl _ w).alloc (Nat.le_refl _) _).alloc (by simp) _⟩
    have := heap_alloc_new (w.alloc (.cells #[.int .i64 e, .slice ad l.length cap, .int .i64 nw] 24)) (.cells #[.pointer (some ⟨j, 0, none⟩), .int .i64 0, .slice none 0 0, .int .i64 0, .int .i64 0, .slice none 0 0, .int .i64 0, .int .i64 un, .int .i64 0, .int .i64 0, .int .i64 0, .int .i64 0, .int .i64 0, .int .i64 0, .int .i64 0, .bool false] 78)
    rw [show (w.alloc (.cells #[.int .i64 e, .slice ad l.length cap, .int .i64 nw] 24)).heap.size = w.heap.size + 1 by simp] at this
    exact this
  have HW := Lib.hid hW
  have HU := Lib.hid hu
  clear hu hW
  go_enter Tryz.func25, Tryz.ntmps25
  go_wp2_with fail
  generalize hgen : ((w.alloc (.cells #[.int .i64 e, .slice ad l.length cap, .int .i64 nw] 24)).alloc (.cells #[.pointer (some ⟨j, 0, none⟩), .int .i64 0, .slice none 0 0, .int .i64 0, .int .i64 0, .slice none 0 0, .int .i64 0, .int .i64 un, .int .i64 0, .int .i64 0, .int .i64 0, .int .i64 0, .int .i64 0, .int .i64 0, .int .i64 0, .bool false] 78)) = W
  obtain ⟨hcc, hbl⟩ := HW.out W hgen.symm
  clear hgen HW
  have HB := Lib.hid hbl
  refine (enter_p (e := e) (nw := nw) (l := l) (ad := ad) (cap := cap) hcc now).mono ?_
  rintro _ w2 ⟨rfl, h2, ho2⟩
  have HC2 := Lib.hid h2
  have HO2 := Lib.hid ho2
  clear h2 ho2 hcc hbl
  go_wp2_with fail
  go_ret
  have hi := HO2.out.isAt (HU.out.below HB.out) (fun hg => by have := HU.out.lt hg; omega)
  exact ⟨_, rfl, HC2.out, hi, by omega, HB.out.trans (HO2.out.below (Nat.le_trans HB.out.size (Nat.le_refl _)) (by simp))⟩
set_option maxRecDepth 100000 in
theorem down_p (h : CC w x j v v' s) : Calls Tryz.prog 32 #[.pointer (some ⟨x, 0, none⟩)] w fun y w' => y = .returned (.bool false) ∧ w = w' := by
  obtain ⟨c0, _⟩ := h.cells
  clear h
  go_enter Tryz.func32, Tryz.ntmps32
  go_wp2_with fail
  go_ret
  exact ⟨rfl, rfl⟩
set_option maxRecDepth 100000 in
theorem changing_p (h : CC w x j v v' s) : Calls Tryz.prog 18 #[.pointer (some ⟨x, 0, none⟩)] w fun y w' => y = .returned (.bool s.chg) ∧ w = w' := by
  obtain ⟨c0, c1, c2, c3, c4, c5, c6, c7, c8, c9⟩ := h.cells
  clear h
  unfold Cs.chg
  go_enter Tryz.func18, Tryz.ntmps18
  go_wp2_with fail
  go_ret
  exact ⟨rfl, rfl⟩
set_option maxRecDepth 100000 in
theorem until_p (h : CC w x j v v' s) : Calls Tryz.prog 19 #[.pointer (some ⟨x, 0, none⟩)] w fun y w' => y = .returned (.int .i64 s.un) ∧ w = w' := by
  obtain ⟨c0, c1, c2, c3, c4, c5, c6, c7, c8, c9⟩ := h.cells
  clear h
  go_enter Tryz.func19, Tryz.ntmps19
  go_wp2_with fail
  go_ret
  exact ⟨rfl, rfl⟩
set_option maxRecDepth 100000 in
theorem lost_p (h : CC w x j v v' s) : Calls Tryz.prog 20 #[.pointer (some ⟨x, 0, none⟩)] w fun y w' => y = .returned (.bool s.lost) ∧ w = w' := by
  have HD := Lib.hid (down_p h)
  obtain ⟨c0, c1, c2, c3, c4, c5, c6, c7, c8, c9⟩ := h.cells
  clear h
  go_enter Tryz.func20, Tryz.ntmps20
  go_wp2_with fail
  refine HD.out.mono ?_
  rintro _ _ ⟨rfl, rfl⟩
  go_wp2_with fail
  go_ret
  exact ⟨rfl, rfl⟩
set_option maxRecDepth 100000 in
set_option maxHeartbeats 4000000 in
theorem croster_p (h : CC w x j v v' s) (hv : IsAt w v s.r.l) (hn : s.r.l.length ≤ 1000) :
    Calls Tryz.prog 17 #[.pointer (some ⟨x, 0, none⟩)] w fun y w' => ∃ ad cap, y = .returned (.agg #[.int .i64 s.r.ep, .slice ad s.r.l.length cap, .int .i64 s.r.nw]) ∧ IOwn w' w.heap.size (.slice ad s.r.l.length cap) s.r.l ∧ Below w.heap.size w w' := by
  obtain ⟨ad, cap, rfl, _⟩ := hv.shape
  have hb : Below w.heap.size w (w.alloc (.cells #[.int .i64 0, .slice none 0 0, .int .i64 0] 24)) := (Below.refl _ _).alloc (Nat.le_refl _) _
  have HB := Lib.hid hb
  have HZ := Lib.hid (RC.new w 0 none 0 0 0 24)
  have HC := Lib.hid (ccopied_p s.r.ep s.r.nw _ s.r.l _ (hv.below hb) (by omega))
  have hlt := h.lt
  have hlt' : x < w.heap.size + 1 := by omega
  have HS : Hid ((w.alloc (.cells #[.int .i64 0, .slice none 0 0, .int .i64 0] 24)).heap.size = w.heap.size + 1) := Lib.hid (by simp)
  obtain ⟨c0, c1, c2, c3, c4, c5, c6, c7, c8, c9⟩ := h.cells
  clear h hv hn hb
  generalize s.r.l = l at *
  generalize s.r.ep = e at *
  generalize s.r.nw = nw at *
  go_enter Tryz.func17, Tryz.ntmps17
  go_wp2_with fail
  generalize (w.alloc (.cells #[.int .i64 0, .slice none 0 0, .int .i64 0] 24)) = W at *
  clear c0 c1 c2 c3 c4 c5 c6 c7 c8 c9
  refine HC.out.mono ?_
  rintro _ w2 ⟨a2, c2, rfl, ho, hb2⟩
  have HZ2 := Lib.hid (HZ.out.below hb2)
  have HO := Lib.hid ho
  have HB2 := Lib.hid (HB.out.trans (hb2.mono HB.out.size))
  clear ho hb2 HC HZ hlt hlt'
  obtain ⟨⟨d0, d1, d2⟩, f0, f1, f2⟩ := HZ2.out
  go_wp2_with fail
  obtain ⟨⟨t0, t1, t2⟩, _⟩ := rc_put HZ2.out e nw a2 l.length c2
  refine bodyPost_ret (v := .agg #[.int .i64 e, .slice a2 l.length c2, .int .i64 nw]) (by simp [results, Tryz.results17, go_sem, t0, t1, t2]) rfl ⟨a2, c2, rfl, (HO.out.mono (by have := HS.out; omega)).kept (fun g hg => ?_), ((HB2.out.setCell (p := ⟨w.heap.size, 0, none⟩) (Nat.le_refl _) _).setCell (p := ⟨w.heap.size, 1, none⟩) (Nat.le_refl _) _).setCell (p := ⟨w.heap.size, 2, none⟩) (Nat.le_refl _) _⟩
  have h1 := (HO.out.lt hg).1
  have h2 := HS.out
  have h3 : g ≠ w.heap.size := by omega
  rw [Below.heap_setCell _ _ _ _ h3, Below.heap_setCell _ _ _ _ h3, Below.heap_setCell _ _ _ _ h3]
end
end Go.Proofs.YtaacdggjkfmehaaGreatDoor
namespace Go.Proofs.YtaacdggjkfmehaaGreatDoor
open Go.RowKit Go.Maps Go.Proofs.MapD Go.Proofs.Chest
def wcells (to un : Int) (r : Ro) (ad : Option Addr) (cap : Nat) : Array Value :=
  #[.int .i64 2, .int .i64 0, .int .i64 to, .int .i64 0, .int .i64 0, .int .i64 0, .int .i64 un, .int .i64 0, .int .i64 0, .int .i64 r.ep, .slice ad r.l.length cap, .int .i64 r.nw, .slice none 0 0, .int .i64 0, .slice none 0 0, .slice none 0 0, .int .i64 0, .int .i64 0, .int .i64 0, .int .i64 0, .int .i64 0]
def wx (g : Nat) (cs : Array Value) : It where
  p w F := w.heap[g]? = some (.cells cs 46 (0, 0)) ∧ F = [g]
  kept := fun ⟨h, e⟩ hk => ⟨(hk _ (by simp [e])).trans h, e⟩
  lt := fun ⟨h, e⟩ k hk => by
    rw [e] at hk
    obtain rfl : k = _ := by simpa using hk
    exact (Array.getElem?_eq_some_iff.1 h).1
def LeaseOut (q : Option (Int × Int)) (r : Ro) (u : Value) (K : List It → Prop) : Prop :=
  match q with
  | none => u = .slice none 0 0 ∧ K []
  | some (to, un) => ∃ g ad cap, u = .slice (some ⟨g, 0, none⟩) 1 1 ∧ K [Go.Proofs.YtaacdggjkfmehaaGreatDoor.wx g (wcells to un r ad cap), ix (.slice ad r.l.length cap) r.l]
theorem LeaseOut.mono {q : Option (Int × Int)} {r : Ro} {u : Value} {K K' : List It → Prop} (h : LeaseOut q r u K) (hk : ∀ l, K l → K' l) : LeaseOut q r u K' := by
  match q, h with
  | none, ⟨h1, h2⟩ => exact ⟨h1, hk _ h2⟩
  | some (to, un), ⟨g, ad, cap, h1, h2⟩ => exact ⟨g, ad, cap, h1, hk _ h2⟩
section
variable {w0 w : World} {x j : Nat} {v v' : Value} {s : Cs} {L : List It}
set_option maxRecDepth 100000 in
set_option maxHeartbeats 4000000 in
theorem beat_p (h : Sp w0 w (cx x j v v' s :: L)) (m : Nat) (hn : 1 ≤ m ∧ m ≤ 5) (now : Int) (h0 : 0 ≤ now) (h1 : now ≤ 4611686018427387904) (hl : s.r.l.length ≤ 1000) :
    Calls Tryz.prog 33 #[.pointer (some ⟨x, 0, none⟩), .int .i64 m, .int .i64 now] w fun y w' => ∃ u, y = .returned u ∧ LeaseOut (beatS s m now).2 s.r u (fun l => Sp w0 w' (l ++ cx x j v v' (beatS s m now).1 :: L)) := by
  obtain ⟨hc, hv, hv'⟩ := h.ck
  obtain ⟨ad, cap, rfl, _⟩ := hv.shape
  have HHAS := Lib.hid (has_p s.r.ep s.r.nw m _ s.r.l w hv (by omega))
  have HSP := Lib.hid h
  obtain ⟨c0, c1, c2, c3, c4, c5, c6, c7, c8, c9⟩ := hc.cells
  have HLS := Lib.hid (leased_p now h0 h1)
  have HLEN := Lib.hid hl
  have hm6 : (m : Int) < 6 := by omega
  have HM6 := Lib.hid (show m < 6 by omega)
  clear h hc hv hv' h0 h1 hl hn
  unfold beatS
  rw [show (m : Int).toNat = m from rfl]
  cases hh : hasI s.r.l m with
  | false =>
    rw [if_neg Bool.false_ne_true]
    rw [hh] at HHAS
    clear hh
    go_enter Tryz.func33, Tryz.ntmps33
    go_wp2_with fail
    refine HHAS.out.mono ?_
    rintro _ w2 ⟨rfl, hb2⟩
    have HS2 := Lib.hid (HSP.out.below hb2)
    clear hb2 c0 c1 c2 c3 c4 c5 c6 c7 c8 c9 HSP
    have HC2 := Lib.hid HS2.out.ck.1
    obtain ⟨_, _, _, _, _, _, _, _, c8, _⟩ := HC2.out.cells
    have f8 := HC2.out.free 14
    go_wp2_with fail
    go_ret
    exact ⟨_, rfl, rfl, HS2.out.ckSame (HC2.out.asks m) rfl rfl ((Only.refl [x] w2).setCell (p := ⟨x, 14, none⟩) (.inl (by simp)) _)⟩
  | true =>
    rw [if_pos rfl]
    rw [hh] at HHAS
    clear hh
    cases hg : s.chg with
    | true =>
      rw [if_pos rfl]
      go_enter Tryz.func33, Tryz.ntmps33
      go_wp2_with fail
      refine HHAS.out.mono ?_
      rintro _ w2 ⟨rfl, hb2⟩
      have HS2 := Lib.hid (HSP.out.below hb2)
      clear hb2 c0 c1 c2 c3 c4 c5 c6 c7 c8 c9 HSP
      have HC2 := Lib.hid HS2.out.ck.1
      have d0 := HC2.out.hd HM6.out
      have g0 := HC2.out.free (8 + m)
      have hc3 := HC2.out.hear HM6.out now
      have HS3 := Lib.hid (HS2.out.ckSame hc3 rfl rfl ((Only.refl [x] w2).setCell (p := ⟨x, 8 + m, none⟩) (.inl (by simp)) _))
      have HG := changing_p hc3
      rw [show (⟨s.r, s.nx, s.un, s.hd.set m now, s.asks, s.lost⟩ : Cs).chg = s.chg from rfl, hg] at HG
      have HGG := Lib.hid HG
      clear HG hc3 hg
      go_wp2_with fail
      refine HGG.out.mono ?_
      rintro _ _ ⟨rfl, rfl⟩
      go_wp2_with fail
      go_ret
      exact ⟨_, rfl, rfl, HS3.out⟩
    | false =>
      rw [if_neg Bool.false_ne_true]
      go_enter Tryz.func33, Tryz.ntmps33
      go_wp2_with fail
      refine HHAS.out.mono ?_
      rintro _ w2 ⟨rfl, hb2⟩
      have HS2 := Lib.hid (HSP.out.below hb2)
      have HWS := Lib.hid hb2.size
      clear hb2 c0 c1 c2 c3 c4 c5 c6 c7 c8 c9 HSP
      have HC2 := Lib.hid HS2.out.ck.1
      have d0 := HC2.out.hd HM6.out
      have g0 := HC2.out.free (8 + m)
      have hc3 := HC2.out.hear HM6.out now
      have HS3 := Lib.hid (HS2.out.ckSame hc3 rfl rfl ((Only.refl [x] w2).setCell (p := ⟨x, 8 + m, none⟩) (.inl (by simp)) _))
      have HG := changing_p hc3
      rw [show (⟨s.r, s.nx, s.un, s.hd.set m now, s.asks, s.lost⟩ : Cs).chg = s.chg from rfl, hg] at HG
      have HGG := Lib.hid HG
      have HSZ : Hid ((w2.setCell ⟨x, 8 + m, none⟩ (.int .i64 now)).heap.size = w2.heap.size) := Lib.hid (by simp [World.setCell])
      clear HG hc3 hg
      go_wp2_with fail
      generalize (w2.setCell ⟨x, 8 + m, none⟩ (.int .i64 now)) = W3 at *
      clear d0 g0
      refine HGG.out.mono ?_
      rintro _ _ ⟨rfl, rfl⟩
      go_wp2_with fail
      refine (HLS.out W3).mono ?_
      rintro _ W4 ⟨rfl, rfl⟩
      have hc3 := HS3.out.ck.1
      obtain ⟨_, _, _, _, _, _, _, c7, _, _⟩ := hc3.cells
      have f7 := hc3.free 7
      have hc4 := hc3.un (max s.un (now + 6))
      have HS4 := Lib.hid (HS3.out.ckSame hc4 rfl rfl ((Only.refl [x] W4).setCell (p := ⟨x, 7, none⟩) (.inl (by simp)) _))
      dsimp only at c7
      clear hc3 hc4 HGG
      go_wp2_with fail
      have HSZ5 : Hid ((W4.setCell ⟨x, 7, none⟩ (.int .i64 (max s.un (now + 6)))).heap.size = w2.heap.size) := Lib.hid (by have := HSZ.out; simpa [World.setCell] using this)
      generalize (W4.setCell ⟨x, 7, none⟩ (.int .i64 (max s.un (now + 6)))) = W5 at *
      clear c7 f7 HS3
      have hck := HS4.out.ck
      refine (croster_p hck.1 hck.2.1 HLEN.out).mono ?_
      clear hck
      dsimp only
      rintro _ w6 ⟨a6, c6, rfl, ho6, hb6⟩
      have HO6 := Lib.hid ho6
      have HS6 := Lib.hid (HS4.out.ixNew hb6 ho6.at (fun g hg => (ho6.lt hg).1))
      have HB6 := Lib.hid hb6
      clear ho6 hb6 HS4
      go_wp2_with fail
      go_ret
      exact ⟨_, rfl, w6.heap.size, a6, c6, rfl, HS6.out.new ((Below.refl _ _).alloc (Nat.le_refl _) _) ⟨[w6.heap.size], ⟨heap_alloc_new w6 _, rfl⟩, by simp⟩⟩
def CK (w0 w : World) (x j c R : Nat) (s : Cs) (L : List It) : Prop :=
  ∃ v v' b rs, GS s b rs ∧ Sp w0 w (cx x j v v' s :: jc c j (jst R b rs) (jjr b rs) :: L)
theorem CK.below {c R : Nat} {w2 : World} (h : CK w0 w x j c R s L) (hb : Below w.heap.size w w2) : CK w0 w2 x j c R s L := by
  obtain ⟨v, v', b, rs, h1, h2⟩ := h
  exact ⟨v, v', b, rs, h1, h2.below hb⟩
theorem GS.len {b : Option Ro} {rs : List Ro} (h : GS s b rs) : s.r.l.length ≤ 5 ∧ s.nx.l.length ≤ 5 := by
  have h1 := mayR_len (e := s.r.ep) (l := s.r.l) (nw := s.r.nw) h.may
  refine ⟨by omega, ?_⟩
  rcases h.nx with h2 | ⟨h2, _⟩
  · rw [h2]; simp [Ro.zero]
  · have := mayR_len (e := s.nx.ep) (l := s.nx.l) (nw := s.nx.nw) h2; omega
set_option maxRecDepth 100000 in
set_option maxHeartbeats 4000000 in
theorem full_p {c R : Nat} (h : CK w0 w x j c R s L) (hR : 2000 ≤ R) (hlib : LibAt w0) (n ep : Int) (hn : n ≠ 0) :
    Calls Tryz.prog 34 #[.pointer (some ⟨x, 0, none⟩), .int .i64 n, .int .i64 ep] w fun y w' => y = .returned (.tuple #[]) ∧ CK w0 w' x j c R (fullS s n ep) L := by
  obtain ⟨v, v', b, rs, hg, hsp⟩ := h
  obtain ⟨hc, hv, hv'⟩ := hsp.ck
  obtain ⟨ad, cap, rfl, _⟩ := hv.shape
  obtain ⟨c0, c1, c2, c3, c4, c5, c6, c7, c8, c9⟩ := hc.cells
  have HSP := Lib.hid hsp
  have HGS := Lib.hid hg
  have HCH := Lib.hid (changing_p hc)
  unfold fullS
  by_cases t1 : n = s.r.nw
  case neg =>
    have t1b : (n != s.r.nw) = true := by rw [bne_iff_ne]; exact t1
    rw [if_neg (by rintro ⟨h, _⟩; exact t1 h)]
    clear t1 hc hv hv' hsp hg
    go_enter Tryz.func34, Tryz.ntmps34
    go_wp2_with fail
    first | exact bodyPost_end (results_none rfl _ _ _) rfl ⟨rfl, _, _, _, _, HGS.out, HSP.out⟩ | exact bodyPost_ret (results_none rfl _ _ _) rfl ⟨rfl, _, _, _, _, HGS.out, HSP.out⟩
  by_cases t2 : ep = s.r.ep
  case neg =>
    have t1b : (n != s.r.nw) = false := by rw [bne_eq_false_iff_eq]; exact t1
    have t2b : (ep != s.r.ep) = true := by rw [bne_iff_ne]; exact t2
    rw [if_neg (by rintro ⟨_, h, _⟩; exact t2 h)]
    clear t1 t2 hc hv hv' hsp hg
    go_enter Tryz.func34, Tryz.ntmps34
    go_wp2_with fail
    first | exact bodyPost_end (results_none rfl _ _ _) rfl ⟨rfl, _, _, _, _, HGS.out, HSP.out⟩ | exact bodyPost_ret (results_none rfl _ _ _) rfl ⟨rfl, _, _, _, _, HGS.out, HSP.out⟩
  have t1b : (n != s.r.nw) = false := by rw [bne_eq_false_iff_eq]; exact t1
  have t2b : (ep != s.r.ep) = false := by rw [bne_eq_false_iff_eq]; exact t2
  cases t3 : s.chg with
  | true =>
    rw [if_neg (by rintro ⟨_, _, h⟩; cases h)]
    rw [t3] at HCH
    clear t1 t2 t3 hc hv hv' hsp hg
    go_enter Tryz.func34, Tryz.ntmps34
    go_wp2_with fail
    refine HCH.out.mono ?_
    rintro _ _ ⟨rfl, rfl⟩
    go_wp2_with fail
    first | exact bodyPost_end (results_none rfl _ _ _) rfl ⟨rfl, _, _, _, _, HGS.out, HSP.out⟩ | exact bodyPost_ret (results_none rfl _ _ _) rfl ⟨rfl, _, _, _, _, HGS.out, HSP.out⟩
  | false =>
    rw [if_pos ⟨t1, t2, rfl⟩]
    rw [t3] at HCH
    obtain ⟨l1, l2, l3⟩ := hg.learn t3 (by rw [← t1]; exact hn)
    have HL3 := Lib.hid l3
    have hb := ro_below w s.r.ep (.slice ad s.r.l.length cap) 0 24
    have HS1 := Lib.hid (hsp.rxNew s.r.ep 0 (.slice ad s.r.l.length cap))
    have HKP := Lib.hid (fun W (hW : Sp w0 W (cx x j (.slice ad s.r.l.length cap) v' s :: jc c j (jst R b rs) (jjr b rs) :: rx w.heap.size s.r.ep (.slice ad s.r.l.length cap) 0 :: L)) => keep_p hW hg.jg hR l1 hW.ck.2.1 hlib)
    have hlt := hc.lt
    clear t1 t2 t3 hc hv hv' hsp hg l1 l2 l3 hn
    go_enter Tryz.func34, Tryz.ntmps34
    go_wp2_with fail
    refine HCH.out.mono ?_
    rintro _ _ ⟨rfl, rfl⟩
    go_wp2_with fail
    refine (HKP.out _ HS1.out.rot.rot).mono ?_
    rintro _ w2 ⟨rfl, h2⟩
    have H2 := Lib.hid h2
    have HC2 := Lib.hid h2.ck.1
    obtain ⟨⟨p0, p1, p2⟩, _⟩ := h2.rot.rx.rc
    clear h2 HKP HS1 c0 c1 c2 c3 c4 c5 c6 c7 c8 c9 hlt
    obtain ⟨c0, c1, c2, c3, c4, c5, c6, c7, c8, c9⟩ := HC2.out.cells
    have f1 := HC2.out.free 1
    have f2 := HC2.out.free 2
    have f3 := HC2.out.free 3
    have hc3 := HC2.out.roster ⟨s.r.ep, s.r.l, 0⟩ (.slice ad s.r.l.length cap)
    have HS3 := Lib.hid (H2.out.ckSame hc3 rfl rfl ((((Only.refl [x] w2).setCell (p := ⟨x, 1, none⟩) (.inl (by simp)) _).setCell (p := ⟨x, 2, none⟩) (.inl (by simp)) _).setCell (p := ⟨x, 3, none⟩) (.inl (by simp)) _))
    clear hc3
    go_wp2_with fail
    have hfin := HS3.out.rot.drop
    first | exact bodyPost_end (results_none rfl _ _ _) rfl ⟨rfl, _, _, _, _, HL3.out, hfin⟩ | exact bodyPost_ret (results_none rfl _ _ _) rfl ⟨rfl, _, _, _, _, HL3.out, hfin⟩
end
end Go.Proofs.YtaacdggjkfmehaaGreatDoor
namespace Go.Proofs.YtaacdggjkfmehaaGreatDoor
open Go.RowKit Go.Maps Go.Proofs.MapD Go.Proofs.Chest
section
variable {w0 w : World} {x j c R : Nat} {v v' : Value} {s : Cs} {L : List It}
set_option maxRecDepth 100000 in
set_option maxHeartbeats 4000000 in
theorem silent_p (h : CC w x j v v' s) (hv : IsAt w v s.r.l) (hm : ∀ y ∈ s.r.l, 1 ≤ y ∧ y ≤ 5) (hl : s.r.l.length ≤ 1000) (now : Int) (h0 : 0 ≤ now) (h1 : now ≤ 4611686018427387904) :
    Calls Tryz.prog 63 #[.pointer (some ⟨x, 0, none⟩), .int .i64 now] w fun y w' => y = .returned (.int .i64 (silentS s.hd now s.r.l)) ∧ w = w' := by
  obtain ⟨ad, cap, rfl, _⟩ := hv.shape
  have HC := Lib.hid h
  have HV := Lib.hid hv
  have HM := Lib.hid hm
  obtain ⟨c0, c1, c2, c3, c4, c5, c6, c7, c8, c9⟩ := h.cells
  have h2 : -9223372036854775799 ≤ now := by omega
  have h3 : max now (-9223372036854775799) = now := by omega
  have h4 : IntKind.i64.wrap (now - 9) = now - 9 := IntWalk.i64_in _ (by omega)
  have HRES : Hid (∀ k, k ≤ s.r.l.length → ∀ r, silentS s.hd now (s.r.l.drop k) = r → (∀ k', k' = 0 → r = r)) := Lib.hid (fun _ _ _ _ _ _ => rfl)
  obtain ⟨res, hres⟩ : ∃ res, silentS s.hd now s.r.l = res := ⟨_, rfl⟩
  rw [hres]
  have HRS := Lib.hid hres
  clear h hv hm h0 h1 hres HRES
  generalize hL : s.r.l = l at *
  clear hL
  go_enter Tryz.func63, Tryz.ntmps63
  go_wp2_with fail
  clear h2 h3 h4
  go_loopw [7, 17] (fun _ v17 wr => ∃ (k : Nat), v17 = .int .i64 k ∧ k ≤ l.length ∧ w = wr ∧ Hid (silentS s.hd now (l.drop k) = res)) (fun _ v17 _ => l.length - (intOf v17).toNat)
  case atStart => exact ⟨0, rfl, Nat.zero_le _, rfl, HRS⟩
  case round =>
    obtain ⟨k, rfl, hk, rfl, HR⟩ := hrel
    by_cases hlt : k < l.length
    · have hltz : (k : Int) < (l.length : Int) := by omega
      obtain ⟨y, hy⟩ : ∃ y, l[k]? = some y := ⟨_, List.getElem?_eq_getElem hlt⟩
      obtain ⟨g, o, rfl, d0⟩ := HV.out.get hy
      have hyb := HM.out y (List.mem_of_getElem? hy)
      obtain ⟨m, rfl⟩ : ∃ m : Nat, y = m := ⟨y.toNat, by omega⟩
      have hm6 : (m : Int) < 6 := by omega
      have d1 := HC.out.hd (show m < 6 by omega)
      have hsil := HR.out
      have hd2 : l.drop k = (m : Int) :: l.drop (k + 1) := by
        obtain ⟨hlt', hel⟩ := List.getElem?_eq_some_iff.1 hy
        rw [List.drop_eq_getElem_cons hlt', hel]
      rw [hd2, silentS, show (m : Int).toNat = m from rfl] at hsil
      generalize s.hd.getD m 0 = Y at *
      by_cases hq : Y < now - 9
      · rw [if_pos hq] at hsil
        subst hsil
        clear hy hyb hd2 HR HRS
        go_wp2_with fail
        go_ret
        exact ⟨rfl, rfl⟩
      · rw [if_neg hq] at hsil
        have HN := Lib.hid hsil
        clear hy hyb hd2 HR hsil
        go_wp2_with fail
        go_roundw
        case rel => exact ⟨k + 1, by go_num, by omega, (by first | rfl | trivial), HN⟩
        case measure => simp [intOf]; omega
    · have hltz : ¬ (k : Int) < (l.length : Int) := by omega
      obtain rfl : k = l.length := by omega
      have hsil := HR.out
      rw [List.drop_length] at hsil
      have hsil : (0 : Int) = res := hsil
      subst hsil
      clear HR HRS
      go_wp2_with fail
      go_ret
      exact ⟨rfl, rfl⟩
set_option maxRecDepth 100000 in
set_option maxHeartbeats 8000000 in
theorem find_p (h : CK w0 w x j c R s L) (now : Int) (h0 : 0 ≤ now) (h1 : now ≤ 4611686018427387904) :
    Calls Tryz.prog 36 #[.pointer (some ⟨x, 0, none⟩), .int .i64 now] w fun y w' => y = .returned (.tuple #[]) ∧ CK w0 w' x j c R (findS s now) L := by
  obtain ⟨v, v', b, rs, hg, hsp⟩ := h
  obtain ⟨hc, hv, hv'⟩ := hsp.ck
  obtain ⟨ad, cap, rfl, _⟩ := hv.shape
  have hl := hg.len.1
  have HSL := Lib.hid (silent_p hc hv (fun y hy => may_mem hg.may hy) (by omega) now h0 h1)
  have HSP := Lib.hid hsp
  have HGF := Lib.hid (hg.find now)
  have HLN := Lib.hid hl
  have HADD := Lib.hid (fun W (hW : IsAt W (.slice ad s.r.l.length cap) s.r.l) => add_p s.r.ep s.r.nw s.asks _ s.r.l W hW (by omega))
  have HDRP := Lib.hid (fun n W (hW : IsAt W (.slice ad s.r.l.length cap) s.r.l) => drop_p s.r.ep s.r.nw n _ s.r.l W hW (by omega))
  have hlt := hc.lt
  obtain ⟨c0, c1, c2, c3, c4, c5, c6, c7, c8, c9⟩ := hc.cells
  have f15 := hc.free 15
  have hcl := hc.lostS false
  clear hv hv' hsp hg h0 h1 hl
  unfold findS at HGF ⊢
  generalize silentS s.hd now s.r.l = n at *
  by_cases hn : n = 0
  · subst hn
    rw [if_pos rfl] at HGF ⊢
    have HS1 := Lib.hid (HSP.out.ckSame hcl rfl rfl ((Only.refl [x] w).setCell (p := ⟨x, 15, none⟩) (.inl (by simp)) _))
    clear hc hcl HDRP
    go_enter Tryz.func36, Tryz.ntmps36
    go_wp2_with fail
    refine HSL.out.mono ?_
    rintro _ _ ⟨rfl, rfl⟩
    go_wp2_with fail
    have HSZ : Hid ((w.setCell ⟨x, 15, none⟩ (.bool false)).heap.size = w.heap.size) := Lib.hid (by simp [World.setCell])
    generalize (w.setCell ⟨x, 15, none⟩ (.bool false)) = W at *
    clear c0 c1 c2 c3 c4 c5 c6 c7 c8 c9 f15 hlt HSL HSP
    have HC1 := Lib.hid HS1.out.ck.1
    have HS : Hid (∀ W' : World, W'.heap[x]? = W.heap[x]? → W'.cell? ⟨x, 1, none⟩ = some (.int .i64 s.r.ep) ∧ W'.cell? ⟨x, 2, none⟩ = some (.slice ad s.r.l.length cap) ∧ W'.cell? ⟨x, 3, none⟩ = some (.int .i64 s.r.nw) ∧ W'.cell? ⟨x, 14, none⟩ = some (.int .i64 s.asks)) := Lib.hid (fun W' hW => by
      obtain ⟨c0, c1, c2, c3, c4, c5, c6, c7, c8, c9⟩ := (HC1.out.kept hW).cells
      exact ⟨c1, c2, c3, c8⟩)
    have hS0 := HS.out W.drew rfl
    refine wp_region_held (S := fun W' : World => W'.cell? ⟨x, 1, none⟩ = some (.int .i64 s.r.ep) ∧ W'.cell? ⟨x, 2, none⟩ = some (.slice ad s.r.l.length cap) ∧ W'.cell? ⟨x, 3, none⟩ = some (.int .i64 s.r.nw) ∧ W'.cell? ⟨x, 14, none⟩ = some (.int .i64 s.asks)) (by kernel_rfl) ?_
    change wpAnyH _ _ _ _ _ _ _ _ (World.drew _)
    refine wpAnyH_take (i := 0) (v := Value.pointer (some ⟨x, 0, none⟩)) rfl (by kernel_rfl) (by kernel_rfl) (by kernel_rfl) (fun _ _ _ h => h) (Or.inl ⟨by rfl, ?_⟩) hS0 ?_
    · intro w' ⟨s1, s2, s3, s4⟩; go_simp
    refine wpAnyH_take (i := 1) (v := Value.pointer (some ⟨x, 0, none⟩)) rfl (by kernel_rfl) (by kernel_rfl) (by kernel_rfl) (fun _ _ _ h => h) (Or.inl ⟨by rfl, ?_⟩) hS0 ?_
    · intro w' ⟨s1, s2, s3, s4⟩; go_simp
    refine wpAnyH_take (i := 2) (v := Value.pointer (some ⟨x, 0, none⟩)) rfl (by kernel_rfl) (by kernel_rfl) (by kernel_rfl) (fun _ _ _ h => h) (Or.inl ⟨by rfl, ?_⟩) hS0 ?_
    · intro w' ⟨s1, s2, s3, s4⟩; go_simp
    refine wpAnyH_take (i := 3) (v := Value.pointer (some ⟨x, 1, none⟩)) rfl (by kernel_rfl) (by kernel_rfl) (by kernel_rfl) (fun _ _ _ h => h) (Or.inl ⟨by rfl, ?_⟩) hS0 ?_
    · intro w' ⟨s1, s2, s3, s4⟩; go_simp
    refine wpAnyH_take (i := 4) (v := Value.agg #[.int .i64 s.r.ep, .slice ad s.r.l.length cap, .int .i64 s.r.nw]) rfl (by kernel_rfl) (by kernel_rfl) (by kernel_rfl) (fun _ _ _ h => h) (Or.inl ⟨by rfl, ?_⟩) hS0 ?_
    · intro w' ⟨s1, s2, s3, s4⟩; go_simp
    refine wpAnyH_take (i := 5) (v := Value.pointer (some ⟨x, 0, none⟩)) rfl (by kernel_rfl) (by kernel_rfl) (by kernel_rfl) (fun _ _ _ h => h) (Or.inl ⟨by rfl, ?_⟩) hS0 ?_
    · intro w' ⟨s1, s2, s3, s4⟩; go_simp
    refine wpAnyH_take (i := 6) (v := Value.pointer (some ⟨x, 0, none⟩)) rfl (by kernel_rfl) (by kernel_rfl) (by kernel_rfl) (fun _ _ _ h => h) (Or.inl ⟨by rfl, ?_⟩) hS0 ?_
    · intro w' ⟨s1, s2, s3, s4⟩; go_simp
    refine wpAnyH_take (i := 7) (v := Value.pointer (some ⟨x, 14, none⟩)) rfl (by kernel_rfl) (by kernel_rfl) (by kernel_rfl) (fun _ _ _ h => h) (Or.inl ⟨by rfl, ?_⟩) hS0 ?_
    · intro w' ⟨s1, s2, s3, s4⟩; go_simp
    refine wpAnyH_take (i := 8) (v := Value.int .i64 s.asks) rfl (by kernel_rfl) (by kernel_rfl) (by kernel_rfl) (fun _ _ _ h => h) (Or.inl ⟨by rfl, ?_⟩) hS0 ?_
    · intro w' ⟨s1, s2, s3, s4⟩; go_simp
    simp only [List.getElem_toArray, List.getElem_cons_succ, List.getElem_cons_zero, Act.put, List.setIfInBounds_toArray, List.set_cons_zero, List.set_cons_succ]
    clear hS0
    refine wpAnyH_ready (rs := [9]) (by kernel_rfl) (by simp) ?_
    refine AllReadyH.cons rfl (fun K hK => ?_) AllReadyH.nil
    simp only [List.getElem_toArray, List.getElem_cons_succ, List.getElem_cons_zero]
    go_simp
    refine (HADD.out W.drew (HS1.out.ck.2.1.below (Below.refl _ W).drew)).mono ?_
    rintro _ w2 ⟨a1, c1, rfl, ho, hb⟩
    have hbw : Below W.heap.size W w2 := ⟨hb.os, hb.tape, hb.output, hb.size, hb.block⟩
    have hxW := HC1.out.lt
    have hS2 := HS.out w2 (hbw.block x hxW)
    refine hK.out _ _ hS2 (fun hS0 => ?_)
    clear hK hS2
    obtain ⟨r1, hr1⟩ : ∃ r1, addR ⟨s.r.ep, s.r.l, s.r.nw⟩ s.asks = r1 := ⟨_, rfl⟩
    have HR1 := Lib.hid hr1
    rw [hr1] at ho ⊢
    clear hr1
    obtain ⟨r1, o1⟩ := r1
    dsimp only at ho ⊢
    refine wpAnyH_take (i := 10) (v := Value.tuple #[.agg #[.int .i64 r1.ep, .slice a1 r1.l.length c1, .int .i64 r1.nw], .bool o1]) rfl (by kernel_rfl) (by kernel_rfl) (by kernel_rfl) (fun _ _ _ h => h) (Or.inl ⟨by rfl, ?_⟩) hS0 ?_
    · intro w' ⟨s1, s2, s3, s4⟩; go_simp
    refine wpAnyH_take (i := 11) (v := Value.agg #[.int .i64 r1.ep, .slice a1 r1.l.length c1, .int .i64 r1.nw]) rfl (by kernel_rfl) (by kernel_rfl) (by kernel_rfl) (fun _ _ _ h => h) (Or.inl ⟨by rfl, ?_⟩) hS0 ?_
    · intro w' ⟨s1, s2, s3, s4⟩; go_simp
    refine wpAnyH_take (i := 12) (v := Value.bool o1) rfl (by kernel_rfl) (by kernel_rfl) (by kernel_rfl) (fun _ _ _ h => h) (Or.inl ⟨by rfl, ?_⟩) hS0 ?_
    · intro w' ⟨s1, s2, s3, s4⟩; go_simp
    refine wpAnyH_take (i := 13) (v := Value.pointer (some ⟨x, 0, none⟩)) rfl (by kernel_rfl) (by kernel_rfl) (by kernel_rfl) (fun _ _ _ h => h) (Or.inl ⟨by rfl, ?_⟩) hS0 ?_
    · intro w' ⟨s1, s2, s3, s4⟩; go_simp
    refine wpAnyH_take (i := 14) (v := Value.pointer (some ⟨x, 4, none⟩)) rfl (by kernel_rfl) (by kernel_rfl) (by kernel_rfl) (fun _ _ _ h => h) (Or.inl ⟨by rfl, ?_⟩) hS0 ?_
    · intro w' ⟨s1, s2, s3, s4⟩; go_simp
    simp only [List.getElem_toArray, List.getElem_cons_succ, List.getElem_cons_zero, Act.put, List.setIfInBounds_toArray, List.set_cons_zero, List.set_cons_succ]
    clear hS0
    refine wpAnyH_ready (rs := [15]) (by kernel_rfl) (by simp) ?_
    refine AllReadyH.cons rfl (fun K hK => ?_) AllReadyH.nil
    simp only [List.getElem_toArray, List.getElem_cons_succ, List.getElem_cons_zero]
    have HC2 := Lib.hid (HC1.out.kept (hbw.block x hxW))
    obtain ⟨_, _, _, _, c4, c5, c6, _, _, _⟩ := HC2.out.cells
    have f4 := HC2.out.free 4
    have f5 := HC2.out.free 5
    have f6 := HC2.out.free 6
    have hnx := HC2.out.next r1 (.slice a1 r1.l.length c1)
    dsimp only at c4 c5 c6
    go_simp
    clear c4 c5 c6 f4 f5 f6
    have HS3 : Hid (CK w0 (((w2.setCell ⟨x, 4, none⟩ (.int .i64 r1.ep)).setCell ⟨x, 5, none⟩ (.slice a1 r1.l.length c1)).setCell ⟨x, 6, none⟩ (.int .i64 r1.nw)) x j c R ⟨s.r, r1, s.un, s.hd, s.asks, false⟩ L) := Lib.hid (by
      have hg2 := HGF.out
      rw [show addR s.r s.asks = (r1, o1) from HR1.out] at hg2
      have hS2 := HS1.out.below hbw
      have hk : ∀ g, g ≠ x → ((((w2.setCell ⟨x, 4, none⟩ (.int .i64 r1.ep)).setCell ⟨x, 5, none⟩ (.slice a1 r1.l.length c1)).setCell ⟨x, 6, none⟩ (.int .i64 r1.nw))).heap[g]? = w2.heap[g]? := fun g hg => by rw [Below.heap_setCell _ _ _ _ hg, Below.heap_setCell _ _ _ _ hg, Below.heap_setCell _ _ _ _ hg]
      refine ⟨_, _, b, rs, hg2, HS1.out.ckTurn (((w2.setCell ⟨x, 4, none⟩ (.int .i64 r1.ep)).setCell ⟨x, 5, none⟩ (.slice a1 r1.l.length c1)).setCell ⟨x, 6, none⟩ (.int .i64 r1.nw)) _ (.slice ad s.r.l.length cap) (.slice a1 r1.l.length c1) hnx ?_ ?_ (fun g hg => .inl hg) (fun g hg => .inr (.inr (ho.lt hg).1)) ((((Only.of_below hbw [x]).setCell (p := ⟨x, 4, none⟩) (.inl (by simp)) _).setCell (p := ⟨x, 5, none⟩) (.inl (by simp)) _).setCell (p := ⟨x, 6, none⟩) (.inl (by simp)) _)⟩
      · exact hS2.ck.2.1.keep (fun g hg => hk g (fun e => hS2.ckRows.1 (e ▸ hg)))
      · exact ho.at.keep (fun g hg => hk g (fun e => by have := (ho.lt hg).1; have hh : W.drew.heap.size = W.heap.size := rfl; omega)))
    refine hK.out _ _ (by obtain ⟨_, d1, d2, d3, _, _, _, _, d8, _⟩ := hnx.cells; exact ⟨d1, d2, d3, d8⟩) (fun _ => ?_)
    clear hK
    refine wpAnyH_done (by kernel_rfl) ?_ _
    go_wp2_with fail
    exact bodyPost_ret (results_none rfl _ _ _) rfl ⟨rfl, by rw [show addR s.r s.asks = (r1, o1) from HR1.out]; exact HS3.out⟩
  · have hnb : (n == 0) = false := by rw [beq_eq_false_iff_ne]; exact hn
    rw [if_neg hn] at HGF ⊢
    clear hn hcl HADD f15
    obtain ⟨r1, hr1⟩ : ∃ r1, dropR s.r n = r1 := ⟨_, rfl⟩
    have HDR := Lib.hid (HDRP.out n w HSP.out.ck.2.1)
    unfold RoOut at HDR
    rw [show (⟨s.r.ep, s.r.l, s.r.nw⟩ : Ro) = s.r from rfl, hr1] at HDR
    rw [hr1] at HGF ⊢
    clear hr1 HDRP
    obtain ⟨r1, o1⟩ := r1
    dsimp only at HDR HGF ⊢
    have HC := Lib.hid hc
    clear hc
    go_enter Tryz.func36, Tryz.ntmps36
    go_wp2_with fail
    refine HSL.out.mono ?_
    rintro _ _ ⟨rfl, rfl⟩
    go_wp2_with fail
    refine HDR.out.mono ?_
    rintro _ w2 ⟨a1, c1', rfl, ho, hb⟩
    clear c0 c1 c2 c3 c4 c5 c6 c7 c8 c9
    have hlt2 : x < w2.heap.size := by have := hb.size; omega
    have hxw : ¬ x = w2.heap.size := by omega
    have hxw' : ¬ w2.heap.size = x := by omega
    have HC2 := Lib.hid (HC.out.kept (hb.block x hlt))
    obtain ⟨_, _, _, _, c4, c5, c6, _, _, c9⟩ := HC2.out.cells
    have f4 := HC2.out.free 4
    have f5 := HC2.out.free 5
    have f6 := HC2.out.free 6
    have f15 := HC2.out.free 15
    have HO := Lib.hid ho
    have HB := Lib.hid hb
    clear ho hb HDR HSL
    go_wp2_with fail
    have hcc := (HC2.out.next r1 (.slice a1 r1.l.length c1')).lostS (!o1)
    have hsz : (((((w2.setCell ⟨x, 4, none⟩ (.int .i64 r1.ep)).setCell ⟨x, 5, none⟩ (.slice a1 r1.l.length c1')).setCell ⟨x, 6, none⟩ (.int .i64 r1.nw)).setCell ⟨x, 15, none⟩ (.bool (!o1)))).heap.size = w2.heap.size := by simp [World.setCell]
    have hk : ∀ g, g ≠ x → g < w2.heap.size → ((((((w2.setCell ⟨x, 4, none⟩ (.int .i64 r1.ep)).setCell ⟨x, 5, none⟩ (.slice a1 r1.l.length c1')).setCell ⟨x, 6, none⟩ (.int .i64 r1.nw)).setCell ⟨x, 15, none⟩ (.bool (!o1)))).alloc (.cells #[.int .i64 r1.ep, .slice a1 r1.l.length c1', .int .i64 r1.nw] 24)).heap[g]? = w2.heap[g]? := fun g hg hl => by
      rw [heap_alloc_old _ _ (by rw [hsz]; exact hl), Below.heap_setCell _ _ _ _ hg, Below.heap_setCell _ _ _ _ hg, Below.heap_setCell _ _ _ _ hg, Below.heap_setCell _ _ _ _ hg]
    have hS2 := HSP.out.below HB.out
    have hon : Only [x] w ((((((w2.setCell ⟨x, 4, none⟩ (.int .i64 r1.ep)).setCell ⟨x, 5, none⟩ (.slice a1 r1.l.length c1')).setCell ⟨x, 6, none⟩ (.int .i64 r1.nw)).setCell ⟨x, 15, none⟩ (.bool (!o1)))).alloc (.cells #[.int .i64 r1.ep, .slice a1 r1.l.length c1', .int .i64 r1.nw] 24)) := (((((Only.of_below HB.out [x]).setCell (p := ⟨x, 4, none⟩) (.inl (by simp)) _).setCell (p := ⟨x, 5, none⟩) (.inl (by simp)) _).setCell (p := ⟨x, 6, none⟩) (.inl (by simp)) _).setCell (p := ⟨x, 15, none⟩) (.inl (by simp)) _).alloc _
    refine bodyPost_end (results_none rfl _ _ _) rfl ⟨rfl, _, _, b, rs, HGF.out, HSP.out.ckTurn _ _ (.slice ad s.r.l.length cap) (.slice a1 r1.l.length c1') (hcc.kept (heap_alloc_old _ _ hcc.lt)) ?_ ?_ (fun g hg => .inl hg) (fun g hg => .inr (.inr (HO.out.lt hg).1)) hon⟩
    · exact hS2.ck.2.1.keep (fun g hg => hk g (fun e => hS2.ckRows.1 (e ▸ hg)) (hS2.ck.2.1.lt hg))
    · exact HO.out.at.keep (fun g hg => hk g (fun e => by have := (HO.out.lt hg).1; omega) (HO.out.lt hg).2)
set_option maxRecDepth 100000 in
set_option maxHeartbeats 8000000 in
theorem tick_p (h : CK w0 w x j c R s L) (hR : 2000 ≤ R) (hlib : LibAt w0) (now : Int) (h0 : 0 ≤ now) (h1 : now ≤ 4611686018427387904) :
    Calls Tryz.prog 13 #[.pointer (some ⟨x, 0, none⟩), .int .i64 now] w fun y w' => y = .returned (.slice none 0 0) ∧ CK w0 w' x j c R (tickS s now) L := by
  have HFD := Lib.hid (find_p h now h0 h1)
  obtain ⟨v, v', b, rs, hg, hsp⟩ := h
  obtain ⟨hc, hv, hv'⟩ := hsp.ck
  have HD := Lib.hid (down_p hc)
  have HCH := Lib.hid (changing_p hc)
  obtain ⟨ad, cap, rfl, _⟩ := hv'.shape
  unfold tickS
  cases t : s.chg with
  | false =>
    rw [if_neg Bool.false_ne_true]
    rw [t] at HCH
    clear hc hv hv' hg hsp t h0 h1
    go_enter Tryz.func13, Tryz.ntmps13
    go_wp2_with fail
    refine HD.out.mono ?_
    rintro _ _ ⟨rfl, rfl⟩
    go_wp2_with fail
    refine HCH.out.mono ?_
    rintro _ _ ⟨rfl, rfl⟩
    go_wp2_with fail
    refine HFD.out.mono ?_
    rintro _ w2 ⟨rfl, h2⟩
    have H2 := Lib.hid h2
    clear h2
    go_wp2_with fail
    go_ret
    exact ⟨rfl, H2.out⟩
  | true =>
    rw [if_pos rfl]
    rw [t] at HCH
    obtain ⟨l1, l2, l3⟩ := hg.enter t now
    have HG3 := Lib.hid l3
    have HKP := Lib.hid (keep_p hsp hg.jg hR l1 hv' hlib)
    have HSP := Lib.hid hsp
    have HGS := Lib.hid hg
    obtain ⟨c0, c1, c2, c3, c4, c5, c6, c7, c8, c9⟩ := hc.cells
    clear hc hv hv' hg hsp t h0 h1 l1 l2 l3 HFD
    by_cases ht : s.un < now
    · rw [if_pos ht]
      go_enter Tryz.func13, Tryz.ntmps13
      go_wp2_with fail
      refine HD.out.mono ?_
      rintro _ _ ⟨rfl, rfl⟩
      go_wp2_with fail
      refine HCH.out.mono ?_
      rintro _ _ ⟨rfl, rfl⟩
      go_wp2_with fail
      refine HKP.out.mono ?_
      rintro _ w2 ⟨rfl, h2⟩
      have H2 := Lib.hid h2
      have HC2 := Lib.hid h2.ck.1
      clear h2 HKP c0 c1 c2 c3 c4 c5 c6 c7 c8 c9 HSP
      obtain ⟨_, _, _, _, c4, c5, c6, _, _, _⟩ := HC2.out.cells
      go_wp2_with fail
      refine (enter_p (e := s.nx.ep) (nw := s.nx.nw) (l := s.nx.l) (ad := ad) (cap := cap) HC2.out now).mono ?_
      rintro _ w3 ⟨rfl, hc3, ho3⟩
      have HS3 : Hid (CK w0 w3 x j c R (enterS s s.nx now) L) := Lib.hid ⟨_, _, _, _, HG3.out, H2.out.ckTurn w3 _ _ (.slice none 0 0) hc3 (ho3.isAt H2.out.ck.2.2 H2.out.ckRows.2) (.inl ⟨rfl, rfl⟩) (fun g hg => .inr (.inl hg)) (fun g hg => by cases hg) ho3⟩
      clear hc3 ho3 c4 c5 c6
      go_wp2_with fail
      go_ret
      exact ⟨rfl, HS3.out⟩
    · rw [if_neg ht]
      go_enter Tryz.func13, Tryz.ntmps13
      go_wp2_with fail
      refine HD.out.mono ?_
      rintro _ _ ⟨rfl, rfl⟩
      go_wp2_with fail
      refine HCH.out.mono ?_
      rintro _ _ ⟨rfl, rfl⟩
      go_wp2_with fail
      go_ret
      exact ⟨rfl, _, _, _, _, HGS.out, HSP.out⟩
end
end Go.Proofs.YtaacdggjkfmehaaGreatDoor
