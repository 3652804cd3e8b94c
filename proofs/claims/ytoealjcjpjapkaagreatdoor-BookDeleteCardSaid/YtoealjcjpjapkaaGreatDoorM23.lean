/-
 Contracts of the program, and what they rest on.
-/
import Derived.Test.YtoealjcjpjapkaaGreatDoorTk
import Derived.Test.YtoealjcjpjapkaaGreatDoorM22
set_option maxRecDepth 100000
set_option maxHeartbeats 16000000
namespace Go.Proofs.YtoealjcjpjapkaaGreatDoor
open Go.RowKit
theorem do_told (s : Bk) (u v : Value) (d : De) (w : World) (h : BAt w s u v) (hwf : s.wf) (hdwf : d.wf) (hlib : LibAt w) (hb : true = true ↔ mayD d) (hmay : bmay s = true) (hs0 : 0 ≤ s.seq) (hs1 : s.seq < 1099511627776) (hh1 : 1 ≤ homeP d.req) (hh5 : homeP d.req ≤ 5) (hlo : ¬ d.req < (Bk.mk (s.seq + 1) s.l s.ms s.l1 s.l2 s.l3 s.l4 s.l5).low (homeP d.req)) (r : Rs) (htd : toldR s.ms d.req = (r, true)) :
  Calls Tryz.prog 46 #[bagg s u v, dagg d] w (DoAns (Bk.mk (s.seq + 1) s.l s.ms s.l1 s.l2 s.l3 s.l4 s.l5, r) w) := by
 have hdl : decide (d.req < (Bk.mk (s.seq + 1) s.l s.ms s.l1 s.l2 s.l3 s.l4 s.l5).low (homeP d.req)) = false := decide_eq_false (by omega)
 clear hlo
 have HTO : Hid (∀ (t : Bk) u v W, t.l = s.l → t.ms = s.ms → EsAt W u t.l → MsAt W v t.ms → Calls Tryz.prog 80 #[.agg #[.int .i64 t.seq, u, v, .int .i64 t.l1, .int .i64 t.l2, .int .i64 t.l3, .int .i64 t.l4, .int .i64 t.l5], .int .i64 d.req] W fun e w' => e = .returned (.tuple #[.agg #[.int .i64 r.err, .int .i64 r.ver], .bool true]) ∧ Below W.heap.size W w') := Lib.hid (fun t u v W e1 e2 hW hV => by
  refine (told_p t d.req u v W ⟨hW, hV, by rw [e1]; exact h.short, by rw [e2]; exact h.shortM, by rw [e1]; exact h.shortV⟩).mono ?_
  rintro _ w' ⟨rfl, hb⟩
  rw [e2, htd]
  exact ⟨rfl, hb⟩)
 clear htd
 have hqb : (s.seq == 1099511627776) = false := by rw [beq_eq_false_iff_ne]; omega
 have HH := Lib.hid (fun W => home_p d.req hdwf.2.2.2.1.1 hdwf.2.2.2.1.2 W)
 obtain ⟨ad, cap, rfl, _⟩ := h.es.shape
 obtain ⟨ad', cap', rfl, _⟩ := h.ms.shape
 have HM := Lib.hid (fun W (hW : Below w.heap.size w W) => bmay_p s _ _ W (h.below hW) hwf)
 have HDM := Lib.hid (fun W (hW : Below w.heap.size w W) => dmay_p d true hb hdwf W (hlib.1.below hW) (hlib.2.1.below hW))
 have HCP := Lib.hid (fun W (hW : Below w.heap.size w W) => bcopied_p s _ _ W (h.below hW))
 rw [hmay] at HM
 obtain ⟨n1, hn1⟩ : ∃ n, s.l.length = n := ⟨_, rfl⟩
 obtain ⟨n2, hn2⟩ : ∃ n, s.ms.length = n := ⟨_, rfl⟩
 have HN := Lib.hid (And.intro hn1 hn2)
 unfold BAns at HCP
 rw [hn1, hn2] at HM HCP ⊢
 have HW0 : Hid (∀ W, W = ((((w.alloc (.cells #[.int .i64 s.seq, .slice ad n1 cap, .slice ad' n2 cap', .int .i64 s.l1, .int .i64 s.l2, .int .i64 s.l3, .int .i64 s.l4, .int .i64 s.l5] 78)).alloc (.cells #[.int .i64 d.kind, .string d.key, .string d.body, .int .i64 d.ver, .int .i64 d.cond, .string d.tag, .int .i64 d.req, .int .i64 d.low] 23)).alloc (.cells #[.int .i64 0, .slice none 0 0, .slice none 0 0, .int .i64 0, .int .i64 0, .int .i64 0, .int .i64 0, .int .i64 0] 78)).alloc (.cells #[.int .i64 0, .int .i64 0] 80)) → Below w.heap.size w W ∧ BC W w.heap.size s (.slice ad n1 cap) (.slice ad' n2 cap') ∧ DB W (w.heap.size + 1) d ∧ BC W (w.heap.size + 1 + 1) Bk.zero (.slice none 0 0) (.slice none 0 0) ∧ RC W (w.heap.size + 1 + 1 + 1) ⟨0, 0⟩ ∧ w.heap.size + 4 ≤ W.heap.size) := Lib.hid (by
  rintro _ rfl
  refine ⟨(((Below.refl _ w).alloc (Nat.le_refl _) _).alloc (by simp) _).alloc (by simp; omega) _ |>.alloc (by simp; omega) _, ?_, ?_, ?_, ?_, by simp⟩
  ·unfold BC
   rw [heap_alloc_old _ _ (by simp; omega), heap_alloc_old _ _ (by simp; omega), heap_alloc_old _ _ (by simp), heap_alloc_new]
   rfl
  ·unfold DB
   rw [heap_alloc_old _ _ (by simp), heap_alloc_old _ _ (by simp)]
   have := heap_alloc_new (w.alloc (.cells #[.int .i64 s.seq, .slice ad n1 cap, .slice ad' n2 cap', .int .i64 s.l1, .int .i64 s.l2, .int .i64 s.l3, .int .i64 s.l4, .int .i64 s.l5] 78)) (.cells #[.int .i64 d.kind, .string d.key, .string d.body, .int .i64 d.ver, .int .i64 d.cond, .string d.tag, .int .i64 d.req, .int .i64 d.low] 23)
   simpa using this
  ·unfold BC
   rw [heap_alloc_old _ _ (by simp)]
   have := heap_alloc_new ((w.alloc (.cells #[.int .i64 s.seq, .slice ad n1 cap, .slice ad' n2 cap', .int .i64 s.l1, .int .i64 s.l2, .int .i64 s.l3, .int .i64 s.l4, .int .i64 s.l5] 78)).alloc (.cells #[.int .i64 d.kind, .string d.key, .string d.body, .int .i64 d.ver, .int .i64 d.cond, .string d.tag, .int .i64 d.req, .int .i64 d.low] 23)) (.cells #[.int .i64 0, .slice none 0 0, .slice none 0 0, .int .i64 0, .int .i64 0, .int .i64 0, .int .i64 0, .int .i64 0] 78)
   unfold bcells Bk.zero
   simpa using this
  ·unfold RC
   have := heap_alloc_new (((w.alloc (.cells #[.int .i64 s.seq, .slice ad n1 cap, .slice ad' n2 cap', .int .i64 s.l1, .int .i64 s.l2, .int .i64 s.l3, .int .i64 s.l4, .int .i64 s.l5] 78)).alloc (.cells #[.int .i64 d.kind, .string d.key, .string d.body, .int .i64 d.ver, .int .i64 d.cond, .string d.tag, .int .i64 d.req, .int .i64 d.low] 23)).alloc (.cells #[.int .i64 0, .slice none 0 0, .slice none 0 0, .int .i64 0, .int .i64 0, .int .i64 0, .int .i64 0, .int .i64 0] 78)) (.cells #[.int .i64 0, .int .i64 0] 80)
   simpa using this)
 clear h hwf hdwf hlib hn1 hn2 hmay hb
 unfold dagg at *
 unfold bagg at *
 go_enter Tryz.func46, Tryz.ntmps46
 go_wp2_with fail
 generalize ((((w.alloc (.cells #[.int .i64 s.seq, .slice ad n1 cap, .slice ad' n2 cap', .int .i64 s.l1, .int .i64 s.l2, .int .i64 s.l3, .int .i64 s.l4, .int .i64 s.l5] 78)).alloc (.cells #[.int .i64 d.kind, .string d.key, .string d.body, .int .i64 d.ver, .int .i64 d.cond, .string d.tag, .int .i64 d.req, .int .i64 d.low] 23)).alloc (.cells #[.int .i64 0, .slice none 0 0, .slice none 0 0, .int .i64 0, .int .i64 0, .int .i64 0, .int .i64 0, .int .i64 0] 78)).alloc (.cells #[.int .i64 0, .int .i64 0] 80)) = W at *
 obtain ⟨hbW, h0, h1, h2, h3, hsW⟩ := HW0.out W rfl
 refine (HM.out W hbW).mono ?_
 rintro _ w1 ⟨rfl, hb1⟩
 obtain ⟨d0, d1, d2, d3, d4, d5, d6, d7⟩ := (h1.below hb1).cells
 go_wp2_with fail
 refine (HDM.out w1 (hbW.trans (hb1.mono hbW.size))).mono ?_
 rintro _ w1' ⟨rfl, hb1'⟩
 replace hb1 := hb1.trans (hb1'.mono hb1.size)
 clear d0 d1 d2 d3 d4 d5 d6 d7 hb1'
 obtain ⟨q0, q1, q2, q3, q4, q5, q6, q7⟩ := (h0.below hb1).cells
 go_wp2_with fail
 refine (HCP.out w1' (hbW.trans (hb1.mono hbW.size))).mono ?_
 rintro _ w3 ⟨a1, c1, a2, c2, rfl, ho1, ho2, hb3⟩
 have hbb := hb1.trans (hb3.mono hb1.size)
 have hst := DoW.start (Nat.le_trans hsW hb1.size) (h0.below hbb) (h1.below hbb) (h2.below hbb) (h3.below hbb) (hbW.trans (hbb.mono hbW.size)) ho1 ho2
 have HY := Lib.hid hst
 have hcc := h0.below hbb
 clear q0 q1 q2 q3 q4 q5 q6 q7 hst ho1 ho2 hb3 hb1 h0 h1 h2 h3 hbW HW0 HM HDM HCP
 obtain ⟨q0, q1, q2, q3, q4, q5, q6, q7⟩ := hcc.cells
 have f0 := hcc.free 0
 have f1 := hcc.free 1
 have f2 := hcc.free 2
 have f3 := hcc.free 3
 have f4 := hcc.free 4
 have f5 := hcc.free 5
 have f6 := hcc.free 6
 have f7 := hcc.free 7
 clear hcc hbb
 go_wp2_with fail
 unfold bstore at HY
 generalize ((((((((w3.setCell ⟨w.heap.size, 0, none⟩ (.int .i64 s.seq)).setCell ⟨w.heap.size, 1, none⟩ (.slice a1 n1 c1)).setCell ⟨w.heap.size, 2, none⟩ (.slice a2 n2 c2)).setCell ⟨w.heap.size, 3, none⟩ (.int .i64 s.l1)).setCell ⟨w.heap.size, 4, none⟩ (.int .i64 s.l2)).setCell ⟨w.heap.size, 5, none⟩ (.int .i64 s.l3)).setCell ⟨w.heap.size, 6, none⟩ (.int .i64 s.l4)).setCell ⟨w.heap.size, 7, none⟩ (.int .i64 s.l5)) = Y at *
 clear q0 q1 q2 q3 q4 q5 q6 q7 f0 f1 f2 f3 f4 f5 f6 f7
 obtain ⟨q0, q1, q2, q3, q4, q5, q6, q7⟩ := HY.out.so.bc.cells
 have f0 := HY.out.so.bc.free 0
 have hltb := HY.out.so.bc.lt
 go_wp2_with fail
 have hyq := HY.out.seq (s.seq + 1)
 clear HY q0 q1 q2 q3 q4 q5 q6 q7 f0 hltb
 have HY := Lib.hid hyq
 clear hyq
 generalize Y.setCell ⟨w.heap.size, 0, none⟩ (.int .i64 (s.seq + 1)) = Y2 at *
 have HN2 : Hid ((Bk.mk (s.seq + 1) s.l s.ms s.l1 s.l2 s.l3 s.l4 s.l5).l.length = n1 ∧ (Bk.mk (s.seq + 1) s.l s.ms s.l1 s.l2 s.l3 s.l4 s.l5).ms.length = n2) := Lib.hid HN.out
 have HEQ : Hid ((Bk.mk (s.seq + 1) s.l s.ms s.l1 s.l2 s.l3 s.l4 s.l5).l = s.l ∧ (Bk.mk (s.seq + 1) s.l s.ms s.l1 s.l2 s.l3 s.l4 s.l5).ms = s.ms) := Lib.hid ⟨rfl, rfl⟩
 generalize Bk.mk (s.seq + 1) s.l s.ms s.l1 s.l2 s.l3 s.l4 s.l5 = s2 at *
 clear HN hqb hs0 hs1
 have HN := HN2
 clear HN2
 obtain ⟨_, _, _, _, _, _, d6, _⟩ := HY.out.db.cells
 have hlw := HY.out.so.bc.low (n := homeP d.req) hh1 hh5
 rw [show 3 + (homeP d.req - 1).toNat = 3 + ((homeP d.req).toNat - 1) by omega] at hlw
 generalize s2.low (homeP d.req) = lw at *
 generalize homeP d.req = hm at *
 have hwr : IntKind.i64.wrap (hm - 1) = hm - 1 := IntWalk.i64_in _ (by omega)
 have hp0 : 0 ≤ hm - 1 := by omega
 have hp5 : hm - 1 < 5 := by omega
 go_quiet ((go_at_call 14; exact Calls.quiet_of_same ((HH.out _).mono fun _ _ ⟨a, b⟩ => ⟨a, b.symm⟩)))
 have hyn : DoW w d s2 (.slice a1 n1 c1) (.slice a2 n2 c2) (Y2.drewN nq) := HY.out.below ⟨rfl, rfl, rfl, Nat.le_refl _, fun _ _ => rfl⟩
 clear HY d6 hlw hwr hp0 hp5
 have HY := Lib.hid hyn
 clear hyn
 generalize Y2.drewN nq = Y3 at *
 obtain ⟨q0, q1, q2, q3, q4, q5, q6, q7⟩ := HY.out.so.bc.cells
 obtain ⟨_, _, _, _, _, _, d6, _⟩ := HY.out.db.cells
 go_wp2_with fail
 refine (HTO.out s2 _ _ _ HEQ.out.1 HEQ.out.2 HY.out.so.es.at HY.out.so.ms.at).mono ?_
 rintro _ y4 ⟨rfl, hb4⟩
 have HY4 := Lib.hid (HY.out.below hb4)
 clear HY q0 q1 q2 q3 q4 q5 q6 q7 d6 hb4 HTO
 have HX : Hid (RC (y4.alloc (.cells #[.int .i64 r.err, .int .i64 r.ver] 80)) y4.heap.size r) := Lib.hid (RC.new y4 r)
 have HY := Lib.hid (HY4.out.below ((Below.refl _ _).alloc (Nat.le_refl _) (.cells #[.int .i64 r.err, .int .i64 r.ver] 80)))
 have HXL := Lib.hid HY4.out.rr.lt
 obtain ⟨q0, q1, q2, q3, q4, q5, q6, q7⟩ := HY4.out.so.bc.cells
 have hltb := HY4.out.so.bc.lt
 go_wp2_with fail
 clear q0 q1 q2 q3 q4 q5 q6 q7 hltb HY4
 generalize y4.alloc (.cells #[.int .i64 r.err, .int .i64 r.ver] 80) = Y5 at *
 generalize y4.heap.size = X at *
 have hS0 : BC Y5.drew w.heap.size s2 (.slice a1 n1 c1) (.slice a2 n2 c2) ∧ RC Y5.drew X r := ⟨HY.out.so.bc, HX.out⟩
 refine wp_region_held_drew (S := fun W' => BC W' w.heap.size s2 (.slice a1 n1 c1) (.slice a2 n2 c2) ∧ RC W' X r) (by kernel_rfl) hS0 (fun _ => ?_)
 refine tk 0 (.agg #[.int .i64 s2.seq, .slice a1 n1 c1, .slice a2 n2 c2, .int .i64 s2.l1, .int .i64 s2.l2, .int .i64 s2.l3, .int .i64 s2.l4, .int .i64 s2.l5]) rfl ?_ hS0 ?_
 ·intro w' hw
  obtain ⟨q0, q1, q2, q3, q4, q5, q6, q7⟩ := hw.1.cells
  go_simp
 refine tk 1 (.agg #[.int .i64 r.err, .int .i64 r.ver]) rfl ?_ hS0 ?_
 ·intro w' hw
  obtain ⟨q0, q1, _, _⟩ := hw.2.facts
  go_simp
 simp only [List.getElem_toArray, List.getElem_cons_succ, List.getElem_cons_zero, Act.put, List.setIfInBounds_toArray, List.set_cons_zero, List.set_cons_succ]
 clear hS0
 have HDR := Lib.hid (HY.out.below (Below.refl Y5.heap.size Y5).drew)
 have HXD : Hid (RC Y5.drew X r) := Lib.hid HX.out
 generalize Y5.drew = Y6 at *
 obtain ⟨hm1, hm2⟩ := HDR.out.mid
 obtain ⟨hf1, hf2, hf3⟩ := DoW.fin (by rw [HN.out.1, HN.out.2]; exact HDR.out) r
 rw [HN.out.1, HN.out.2] at hf1 hf2 hf3
 unfold bstore at hm1 hm2 hf1 hf2 hf3
 try unfold bagg at hf3
 try dsimp only at hm1 hm2 hf1 hf2 hf3
 have hmx : RC (bstore Y6 (w.heap.size + 1 + 1) s2 (.slice a1 n1 c1) (.slice a2 n2 c2)) X r := (bstore_heap _ _ _ _ _ (by have := HXL.out; omega)).trans HXD.out
 unfold bstore at hmx
 have HMX := Lib.hid hmx
 have HM1 := Lib.hid hm1
 clear hmx
 have HM2 := Lib.hid hm2
 have HF := Lib.hid (And.intro hf1 (And.intro hf2 hf3))
 clear hm1 hm2 hf1 hf2 hf3
 obtain ⟨z0, z1, z2, z3, z4, z5, z6, z7⟩ := BC.cells (s := Bk.zero) HDR.out.rz
 dsimp only [Bk.zero] at z0 z1 z2 z3 z4 z5 z6 z7
 have g0 := HDR.out.rz.free 0
 have g1 := HDR.out.rz.free 1
 have g2 := HDR.out.rz.free 2
 have g3 := HDR.out.rz.free 3
 have g4 := HDR.out.rz.free 4
 have g5 := HDR.out.rz.free 5
 have g6 := HDR.out.rz.free 6
 have g7 := HDR.out.rz.free 7
 refine wpAnyH_ready (rs := [2]) (by kernel_rfl) (by simp) ?_
 refine AllReadyH.cons rfl (fun K hK => ?_) AllReadyH.nil
 simp only [List.getElem_toArray, List.getElem_cons_succ, List.getElem_cons_zero]
 go_simp
 refine hK.out _ _ ⟨HM1.out, HMX.out⟩ (fun _ => ?_)
 clear hK z0 z1 z2 z3 z4 z5 z6 z7 g0 g1 g2 g3 g4 g5 g6 g7
 generalize ((((((((Y6.setCell ⟨w.heap.size + 1 + 1, 0, none⟩ (.int .i64 s2.seq)).setCell ⟨w.heap.size + 1 + 1, 1, none⟩ (.slice a1 n1 c1)).setCell ⟨w.heap.size + 1 + 1, 2, none⟩ (.slice a2 n2 c2)).setCell ⟨w.heap.size + 1 + 1, 3, none⟩ (.int .i64 s2.l1)).setCell ⟨w.heap.size + 1 + 1, 4, none⟩ (.int .i64 s2.l2)).setCell ⟨w.heap.size + 1 + 1, 5, none⟩ (.int .i64 s2.l3)).setCell ⟨w.heap.size + 1 + 1, 6, none⟩ (.int .i64 s2.l4)).setCell ⟨w.heap.size + 1 + 1, 7, none⟩ (.int .i64 s2.l5)) = Y9 at *
 have hms : BC ((Y9.setCell ⟨w.heap.size + 1 + 1 + 1, 0, none⟩ (.int .i64 r.err)).setCell ⟨w.heap.size + 1 + 1 + 1, 1, none⟩ (.int .i64 r.ver)) w.heap.size s2 (.slice a1 n1 c1) (.slice a2 n2 c2) ∧ RC ((Y9.setCell ⟨w.heap.size + 1 + 1 + 1, 0, none⟩ (.int .i64 r.err)).setCell ⟨w.heap.size + 1 + 1 + 1, 1, none⟩ (.int .i64 r.ver)) X r := by
  have hb3 : w.heap.size ≠ w.heap.size + 1 + 1 + 1 := by omega
  have hx3 : X ≠ w.heap.size + 1 + 1 + 1 := by have := HXL.out; omega
  refine ⟨?_, ?_⟩
  ·unfold BC
   rw [Below.heap_setCell _ _ _ _ hb3, Below.heap_setCell _ _ _ _ hb3]
   exact HM1.out
  ·unfold RC
   rw [Below.heap_setCell _ _ _ _ hx3, Below.heap_setCell _ _ _ _ hx3]
   exact HMX.out
 have HMS := Lib.hid hms
 clear hms
 obtain ⟨x0, x1, xf0, xf1⟩ := HM2.out.facts
 try dsimp only at x0 x1
 have hlt9 := HM2.out.lt
 refine wpAnyH_ready (rs := [3]) (by kernel_rfl) (by simp) ?_
 refine AllReadyH.cons rfl (fun K hK => ?_) AllReadyH.nil
 simp only [List.getElem_toArray, List.getElem_cons_succ, List.getElem_cons_zero]
 go_simp
 refine hK.out _ _ HMS.out (fun _ => ?_)
 clear hK
 refine wpAnyH_done (by kernel_rfl) ?_ _
 go_wp2_with fail
 obtain ⟨t0, t1, t2, t3, t4, t5, t6, t7⟩ := HF.out.1.cells
 obtain ⟨r0, r1, _⟩ := HF.out.2.1.facts
 try dsimp only at t0 t1 t2 t3 t4 t5 t6 t7 r0 r1
 have HF3 := HF.out.2.2
 clear x0 x1 xf0 xf1 HF
 generalize (Y9.setCell ⟨w.heap.size + 1 + 1 + 1, 0, none⟩ (.int .i64 r.err)).setCell ⟨w.heap.size + 1 + 1 + 1, 1, none⟩ (.int .i64 r.ver) = Y8 at *
 exact bodyPost_ret (v := .tuple #[.agg #[.int .i64 s2.seq, .slice a1 n1 c1, .slice a2 n2 c2, .int .i64 s2.l1, .int .i64 s2.l2, .int .i64 s2.l3, .int .i64 s2.l4, .int .i64 s2.l5], .agg #[.int .i64 r.err, .int .i64 r.ver]]) (by simp [results, Tryz.results46, go_sem, t0, t1, t2, t3, t4, t5, t6, t7, r0, r1]) rfl HF3
end Go.Proofs.YtoealjcjpjapkaaGreatDoor
