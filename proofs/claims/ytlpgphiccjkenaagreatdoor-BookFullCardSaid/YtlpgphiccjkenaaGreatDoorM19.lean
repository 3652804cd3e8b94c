/-
 Contracts of the program, and what they rest on.
-/
import Derived.Test.YtlpgphiccjkenaaGreatDoorTk
import Derived.Test.YtlpgphiccjkenaaGreatDoorM18
set_option maxRecDepth 100000
set_option maxHeartbeats 16000000
namespace Go.Proofs.YtlpgphiccjkenaaGreatDoor
open Go.RowKit
theorem do_yes (s : Bk) (u v : Value) (d : De) (w : World) (h : BAt w s u v) (hwf : s.wf) (hdwf : d.wf) (hlib : LibAt w) (hb : true = true ↔ mayD d) (hmay : bmay s = true) (hs0 : 0 ≤ s.seq) (hs1 : s.seq < 1099511627776) (hh1 : 1 ≤ homeP d.req) (hh5 : homeP d.req ≤ 5) (hlo : ¬ d.req < (Bk.mk (s.seq + 1) s.l s.ms s.l1 s.l2 s.l3 s.l4 s.l5).low (homeP d.req)) (htd : toldR s.ms d.req = (⟨0, 0⟩, false)) (hfm : s.ms.length ≠ 100) (hse : SortE s.l) (hsm : SortM s.ms) (hbd : ∀ e ∈ s.l, ∀ x ∈ e.vs, x.body.size ≤ 1000000) (hm9 : s.ms.length ≤ 100) (hP : d.kind ≠ 1 → d.kind ≠ 2 → PurgeOK) (hF : homeP d.low = homeP d.req → ForgetOK) :
  Calls Tryz.prog 7 #[bagg s u v, dagg d] w (DoAns (forgetB ⟨s.seq + 1, (changeB s.l (s.seq + 1) d).1, keepM s.ms ⟨d.req, (changeB s.l (s.seq + 1) d).2⟩, s.l1, s.l2, s.l3, s.l4, s.l5⟩ (homeP d.req) d.low, (changeB s.l (s.seq + 1) d).2) w) := by
 have hdl : decide (d.req < (Bk.mk (s.seq + 1) s.l s.ms s.l1 s.l2 s.l3 s.l4 s.l5).low (homeP d.req)) = false := decide_eq_false (by omega)
 clear hlo
 have HTO : Hid (∀ (t : Bk) u v W, t.l = s.l → t.ms = s.ms → EsAt W u t.l → MsAt W v t.ms → Calls Tryz.prog 16 #[.agg #[.int .i64 t.seq, u, v, .int .i64 t.l1, .int .i64 t.l2, .int .i64 t.l3, .int .i64 t.l4, .int .i64 t.l5], .int .i64 d.req] W fun e w' => e = .returned (.tuple #[.agg #[.int .i64 0, .int .i64 0], .bool false]) ∧ Below W.heap.size W w') := Lib.hid (fun t u v W e1 e2 hW hV => by
  refine (told_p t d.req u v W ⟨hW, hV, by rw [e1]; exact h.short, by rw [e2]; exact h.shortM, by rw [e1]; exact h.shortV⟩).mono ?_
  rintro _ w' ⟨rfl, hb⟩
  rw [e2, htd]
  exact ⟨rfl, hb⟩)
 clear htd
 have HCH : Hid (∀ (t : Bk) u v W, t.seq = s.seq + 1 → t.l = s.l → t.ms = s.ms → SO W w.heap.size w.heap.size t u v → TzAt W → w.heap.size ≤ W.heap.size → Calls Tryz.prog 32 #[.pointer (some ⟨w.heap.size, 0, none⟩), dagg d] W (OpAns w.heap.size w.heap.size t (changeB s.l (s.seq + 1) d) u v W)) := Lib.hid (fun t u v W e0 e1 _ hso hT hB => by
  have := change_p t u v w.heap.size w.heap.size d W hso (by rw [e1]; exact hse) (by rw [e1]; exact h.short) (by rw [e1]; exact h.shortV) (by rw [e1]; exact hbd) hT hB hP
  rw [e0, e1] at this
  exact this)
 have HKP : Hid (∀ (t : Bk) u v W (r : Rs), t.ms = s.ms → SO W w.heap.size w.heap.size t u v → w.heap.size ≤ W.heap.size → Calls Tryz.prog 33 #[.pointer (some ⟨w.heap.size, 0, none⟩), .agg #[.int .i64 d.req, .int .i64 r.err, .int .i64 r.ver]] W (StepAns w.heap.size w.heap.size { t with ms := keepM t.ms ⟨d.req, r⟩ } u v W)) := Lib.hid (fun t u v W r e2 hso hB => bkeep_p t u v w.heap.size w.heap.size ⟨d.req, r⟩ W hso (by rw [e2]; exact hsm) (by rw [e2]; omega) hB)
 have HFG : Hid (∀ (t : Bk) u v W (r : Rs), t.ms = keepM s.ms ⟨d.req, r⟩ → SO W w.heap.size w.heap.size t u v → w.heap.size ≤ W.heap.size → Calls Tryz.prog 34 #[.pointer (some ⟨w.heap.size, 0, none⟩), .int .i64 (homeP d.req), .int .i64 d.low] W (StepAns w.heap.size w.heap.size (forgetB t (homeP d.req) d.low) u v W)) := Lib.hid (fun t u v W r e2 hso hB => forget_any t u v w.heap.size w.heap.size (homeP d.req) d.low W hso hh1 hh5 hdwf.2.2.2.2.1 hdwf.2.2.2.2.2 (by rw [e2, keepM_len]; omega) (fun m hm => by
  rw [e2] at hm
  unfold keepM at hm
  simp only [List.mem_append, List.mem_singleton] at hm
  rcases hm with (hm | rfl) | hm
  ·exact hwf.reqs m (List.mem_of_mem_take hm)
  ·exact hdwf.2.2.2.1
  ·exact hwf.reqs m (List.mem_of_mem_drop hm)) hB hF)
 have HTZ := Lib.hid hlib.1
 obtain ⟨S9, hS9⟩ : ∃ S9, forgetB ⟨s.seq + 1, (changeB s.l (s.seq + 1) d).1, keepM s.ms ⟨d.req, (changeB s.l (s.seq + 1) d).2⟩, s.l1, s.l2, s.l3, s.l4, s.l5⟩ (homeP d.req) d.low = S9 := ⟨_, rfl⟩
 rw [hS9]
 have HS9 : Hid (∀ t : Bk, t = ⟨s.seq + 1, (changeB s.l (s.seq + 1) d).1, keepM s.ms ⟨d.req, (changeB s.l (s.seq + 1) d).2⟩, s.l1, s.l2, s.l3, s.l4, s.l5⟩ → forgetB t (homeP d.req) d.low = S9) := Lib.hid (fun t e => by rw [e]; exact hS9)
 clear hse hsm hbd hm9 hP hF hS9
 have hqb : (s.seq == 1099511627776) = false := by rw [beq_eq_false_iff_ne]; omega
 have HH := Lib.hid (fun W => home_p d.req hdwf.2.2.2.1.1 hdwf.2.2.2.1.2 W)
 obtain ⟨ad, cap, rfl, _⟩ := h.es.shape
 obtain ⟨ad', cap', rfl, _⟩ := h.ms.shape
 have HM := Lib.hid (fun W (hW : Below w.heap.size w W) => bmay_p s _ _ W (h.below hW) hwf)
 have HDM := Lib.hid (fun W (hW : Below w.heap.size w W) => dmay_p d true hb hdwf W (hlib.1.below hW) (hlib.2.1.below hW))
 have HCP := Lib.hid (fun W (hW : Below w.heap.size w W) => bcopied_p s _ _ W (h.below hW))
 rw [hmay] at HM
 obtain ⟨n1, hn1⟩ : ∃ n, s.l.length = n := ⟨_, rfl⟩
 obtain ⟨n2, hn2⟩ : ∃ n, s.ms.length = n := ⟨_, rfl⟩
 have HN := Lib.hid (And.intro hn1 hn2)
 have hfn : ((n2 : Int) == 100) = false := by rw [beq_eq_false_iff_ne]; omega
 clear hfm
 unfold BAns at HCP
 rw [hn1, hn2] at HM HCP ⊢
 have HW0 : Hid (∀ W, W = ((((w.alloc (.cells #[.int .i64 s.seq, .slice ad n1 cap, .slice ad' n2 cap', .int .i64 s.l1, .int .i64 s.l2, .int .i64 s.l3, .int .i64 s.l4, .int .i64 s.l5] 27)).alloc (.cells #[.int .i64 d.kind, .string d.key, .string d.body, .int .i64 d.ver, .int .i64 d.cond, .string d.tag, .int .i64 d.req, .int .i64 d.low] 35)).alloc (.cells #[.int .i64 0, .slice none 0 0, .slice none 0 0, .int .i64 0, .int .i64 0, .int .i64 0, .int .i64 0, .int .i64 0] 27)).alloc (.cells #[.int .i64 0, .int .i64 0] 30)) → Below w.heap.size w W ∧ BC W w.heap.size s (.slice ad n1 cap) (.slice ad' n2 cap') ∧ DB W (w.heap.size + 1) d ∧ BC W (w.heap.size + 1 + 1) Bk.zero (.slice none 0 0) (.slice none 0 0) ∧ RC W (w.heap.size + 1 + 1 + 1) ⟨0, 0⟩ ∧ w.heap.size + 4 ≤ W.heap.size) := Lib.hid (by
  rintro _ rfl
  refine ⟨(((Below.refl _ w).alloc (Nat.le_refl _) _).alloc (by simp) _).alloc (by simp; omega) _ |>.alloc (by simp; omega) _, ?_, ?_, ?_, ?_, by simp⟩
  ·unfold BC
   rw [heap_alloc_old _ _ (by simp; omega), heap_alloc_old _ _ (by simp; omega), heap_alloc_old _ _ (by simp), heap_alloc_new]
   rfl
  ·unfold DB
   rw [heap_alloc_old _ _ (by simp), heap_alloc_old _ _ (by simp)]
   have := heap_alloc_new (w.alloc (.cells #[.int .i64 s.seq, .slice ad n1 cap, .slice ad' n2 cap', .int .i64 s.l1, .int .i64 s.l2, .int .i64 s.l3, .int .i64 s.l4, .int .i64 s.l5] 27)) (.cells #[.int .i64 d.kind, .string d.key, .string d.body, .int .i64 d.ver, .int .i64 d.cond, .string d.tag, .int .i64 d.req, .int .i64 d.low] 35)
   simpa using this
  ·unfold BC
   rw [heap_alloc_old _ _ (by simp)]
   have := heap_alloc_new ((w.alloc (.cells #[.int .i64 s.seq, .slice ad n1 cap, .slice ad' n2 cap', .int .i64 s.l1, .int .i64 s.l2, .int .i64 s.l3, .int .i64 s.l4, .int .i64 s.l5] 27)).alloc (.cells #[.int .i64 d.kind, .string d.key, .string d.body, .int .i64 d.ver, .int .i64 d.cond, .string d.tag, .int .i64 d.req, .int .i64 d.low] 35)) (.cells #[.int .i64 0, .slice none 0 0, .slice none 0 0, .int .i64 0, .int .i64 0, .int .i64 0, .int .i64 0, .int .i64 0] 27)
   unfold bcells Bk.zero
   simpa using this
  ·unfold RC
   have := heap_alloc_new (((w.alloc (.cells #[.int .i64 s.seq, .slice ad n1 cap, .slice ad' n2 cap', .int .i64 s.l1, .int .i64 s.l2, .int .i64 s.l3, .int .i64 s.l4, .int .i64 s.l5] 27)).alloc (.cells #[.int .i64 d.kind, .string d.key, .string d.body, .int .i64 d.ver, .int .i64 d.cond, .string d.tag, .int .i64 d.req, .int .i64 d.low] 35)).alloc (.cells #[.int .i64 0, .slice none 0 0, .slice none 0 0, .int .i64 0, .int .i64 0, .int .i64 0, .int .i64 0, .int .i64 0] 27)) (.cells #[.int .i64 0, .int .i64 0] 30)
   simpa using this)
 clear h hwf hdwf hlib hn1 hn2 hmay hb
 unfold dagg at *
 unfold bagg at *
 go_enter Tryz.func7, Tryz.ntmps7
 go_wp2_with fail
 generalize ((((w.alloc (.cells #[.int .i64 s.seq, .slice ad n1 cap, .slice ad' n2 cap', .int .i64 s.l1, .int .i64 s.l2, .int .i64 s.l3, .int .i64 s.l4, .int .i64 s.l5] 27)).alloc (.cells #[.int .i64 d.kind, .string d.key, .string d.body, .int .i64 d.ver, .int .i64 d.cond, .string d.tag, .int .i64 d.req, .int .i64 d.low] 35)).alloc (.cells #[.int .i64 0, .slice none 0 0, .slice none 0 0, .int .i64 0, .int .i64 0, .int .i64 0, .int .i64 0, .int .i64 0] 27)).alloc (.cells #[.int .i64 0, .int .i64 0] 30)) = W at *
 obtain ⟨hbW, h0, h1, h2, h3, hsW⟩ := HW0.out W rfl
 refine (HM.out W hbW).mono ?_
 rintro _ w1 ⟨rfl, hb1⟩
 obtain ⟨d0, d1, d2, d3, d4, d5, d6, d7⟩ := (h1.below hb1).cells
 go_wp2_with fail
 refine (HDM.out w1 (hbW.trans (hb1.mono hbW.size))).mono ?_
 rintro _ w1' ⟨rfl, hb1'⟩
 replace hb1 := hb1.trans (hb1'.mono hb1.size)
 clear d0 d1 d2 d3 d4 d5 d6 d7 hb1'
 obtain ⟨q0, q1, q2, q3, q4, q5, q6, q7⟩ := (h0.below hb1).cells
 go_wp2_with fail
 refine (HCP.out w1' (hbW.trans (hb1.mono hbW.size))).mono ?_
 rintro _ w3 ⟨a1, c1, a2, c2, rfl, ho1, ho2, hb3⟩
 have hbb := hb1.trans (hb3.mono hb1.size)
 have hst := DoW.start (Nat.le_trans hsW hb1.size) (h0.below hbb) (h1.below hbb) (h2.below hbb) (h3.below hbb) (hbW.trans (hbb.mono hbW.size)) ho1 ho2
 have HY := Lib.hid hst
 have hcc := h0.below hbb
 clear q0 q1 q2 q3 q4 q5 q6 q7 hst ho1 ho2 hb3 hb1 h0 h1 h2 h3 hbW HW0 HM HDM HCP
 obtain ⟨q0, q1, q2, q3, q4, q5, q6, q7⟩ := hcc.cells
 have f0 := hcc.free 0
 have f1 := hcc.free 1
 have f2 := hcc.free 2
 have f3 := hcc.free 3
 have f4 := hcc.free 4
 have f5 := hcc.free 5
 have f6 := hcc.free 6
 have f7 := hcc.free 7
 clear hcc hbb
 go_wp2_with fail
 unfold bstore at HY
 generalize ((((((((w3.setCell ⟨w.heap.size, 0, none⟩ (.int .i64 s.seq)).setCell ⟨w.heap.size, 1, none⟩ (.slice a1 n1 c1)).setCell ⟨w.heap.size, 2, none⟩ (.slice a2 n2 c2)).setCell ⟨w.heap.size, 3, none⟩ (.int .i64 s.l1)).setCell ⟨w.heap.size, 4, none⟩ (.int .i64 s.l2)).setCell ⟨w.heap.size, 5, none⟩ (.int .i64 s.l3)).setCell ⟨w.heap.size, 6, none⟩ (.int .i64 s.l4)).setCell ⟨w.heap.size, 7, none⟩ (.int .i64 s.l5)) = Y at *
 clear q0 q1 q2 q3 q4 q5 q6 q7 f0 f1 f2 f3 f4 f5 f6 f7
 obtain ⟨q0, q1, q2, q3, q4, q5, q6, q7⟩ := HY.out.so.bc.cells
 have f0 := HY.out.so.bc.free 0
 have hltb := HY.out.so.bc.lt
 go_wp2_with fail
 have hyq := HY.out.seq (s.seq + 1)
 clear HY q0 q1 q2 q3 q4 q5 q6 q7 f0 hltb
 have HY := Lib.hid hyq
 clear hyq
 generalize Y.setCell ⟨w.heap.size, 0, none⟩ (.int .i64 (s.seq + 1)) = Y2 at *
 have HN2 : Hid ((Bk.mk (s.seq + 1) s.l s.ms s.l1 s.l2 s.l3 s.l4 s.l5).l.length = n1 ∧ (Bk.mk (s.seq + 1) s.l s.ms s.l1 s.l2 s.l3 s.l4 s.l5).ms.length = n2) := Lib.hid HN.out
 have HEQ : Hid ((Bk.mk (s.seq + 1) s.l s.ms s.l1 s.l2 s.l3 s.l4 s.l5).l = s.l ∧ (Bk.mk (s.seq + 1) s.l s.ms s.l1 s.l2 s.l3 s.l4 s.l5).ms = s.ms) := Lib.hid ⟨rfl, rfl⟩
 obtain ⟨s2, hs2⟩ : ∃ s2, Bk.mk (s.seq + 1) s.l s.ms s.l1 s.l2 s.l3 s.l4 s.l5 = s2 := ⟨_, rfl⟩
 rw [hs2] at HY HN2 HEQ hdl
 have HS2 := Lib.hid hs2
 clear hs2
 clear HN hqb hs0 hs1
 have HN := HN2
 clear HN2
 obtain ⟨_, _, _, _, _, _, d6, _⟩ := HY.out.db.cells
 have hlw := HY.out.so.bc.low (n := homeP d.req) hh1 hh5
 rw [show 3 + (homeP d.req - 1).toNat = 3 + ((homeP d.req).toNat - 1) by omega] at hlw
 generalize s2.low (homeP d.req) = lw at *
 generalize homeP d.req = hm at *
 have hwr : IntKind.i64.wrap (hm - 1) = hm - 1 := IntWalk.i64_in _ (by omega)
 have hp0 : 0 ≤ hm - 1 := by omega
 have hp5 : hm - 1 < 5 := by omega
 go_quiet ((go_at_call 26; exact Calls.quiet_of_same ((HH.out _).mono fun _ _ ⟨a, b⟩ => ⟨a, b.symm⟩)))
 have hyn : DoW w d s2 (.slice a1 n1 c1) (.slice a2 n2 c2) (Y2.drewN nq) := HY.out.below ⟨rfl, rfl, rfl, Nat.le_refl _, fun _ _ => rfl⟩
 clear HY d6 hlw hwr hp0 hp5
 have HY := Lib.hid hyn
 clear hyn
 generalize Y2.drewN nq = Y3 at *
 obtain ⟨q0, q1, q2, q3, q4, q5, q6, q7⟩ := HY.out.so.bc.cells
 obtain ⟨_, _, _, _, _, _, d6, _⟩ := HY.out.db.cells
 go_wp2_with fail
 refine (HTO.out s2 _ _ _ HEQ.out.1 HEQ.out.2 HY.out.so.es.at HY.out.so.ms.at).mono ?_
 rintro _ y4 ⟨rfl, hb4⟩
 have HY4 := Lib.hid (HY.out.below hb4)
 clear HY q0 q1 q2 q3 q4 q5 q6 q7 d6 hb4 HTO
 have HX : Hid (RC (y4.alloc (.cells #[.int .i64 0, .int .i64 0] 30)) y4.heap.size ⟨0, 0⟩) := Lib.hid (RC.new y4 ⟨0, 0⟩)
 have HY := Lib.hid (HY4.out.below ((Below.refl _ _).alloc (Nat.le_refl _) (.cells #[.int .i64 0, .int .i64 0] 30)))
 have HXL := Lib.hid HY4.out.rr.lt
 obtain ⟨q0, q1, q2, q3, q4, q5, q6, q7⟩ := HY4.out.so.bc.cells
 have hltb := HY4.out.so.bc.lt
 clear HX HXL q0 q1 q3 q4 q5 q6 q7
 obtain ⟨p0, p1, p2, p3, p4, p5, p6, p7⟩ := HY4.out.db.cells
 have hltd := HY4.out.db.lt
 go_wp2_with fail
 clear HY4 q2 hltb p0 p1 p2 p3 p4 p5 p6 p7 hltd
 generalize y4.alloc (.cells #[.int .i64 0, .int .i64 0] 30) = Y5 at *
 have hco := HCH.out s2 _ _ Y5 (by rw [← HS2.out]) HEQ.out.1 HEQ.out.2 HY.out.so (HTZ.out.below HY.out.bl) HY.out.bl.size
 unfold dagg at hco
 refine hco.mono ?_
 clear hco HCH
 generalize changeB s.l (s.seq + 1) d = R at *
 rintro _ y6 ⟨rfl, ⟨a3, c3, hso⟩, hb6, hk6⟩
 have HY6 := Lib.hid (HY.out.op hso hb6 (fun j h1 h2 h3 _ => hk6 j h1 h2 h3))
 clear HY hso hb6 hk6
 obtain ⟨_, _, _, _, _, _, d6, _⟩ := HY6.out.db.cells
 have hltd := HY6.out.db.lt
 have HXL := Lib.hid HY6.out.rr.lt
 have HX := Lib.hid (RC.new y6 R.2)
 have HYA := Lib.hid (HY6.out.below ((Below.refl _ _).alloc (Nat.le_refl _) (.cells #[.int .i64 R.2.err, .int .i64 R.2.ver] 30)))
 go_wp2_with fail
 clear d6 hltd HY6
 generalize y6.alloc (.cells #[.int .i64 R.2.err, .int .i64 R.2.ver] 30) = Y7 at *
 generalize y6.heap.size = X at *
 have hco := HKP.out ⟨s2.seq, R.1, s2.ms, s2.l1, s2.l2, s2.l3, s2.l4, s2.l5⟩ _ _ Y7 R.2 HEQ.out.2 HYA.out.so HYA.out.bl.size
 refine hco.mono ?_
 clear hco HKP
 rintro _ y8 ⟨rfl, ⟨a4, c4, a5, c5, hso⟩, hb8, hk8⟩
 obtain ⟨s3, hs3, hso3⟩ : ∃ s3 : Bk, s3 = ⟨s.seq + 1, R.1, keepM s.ms ⟨d.req, R.2⟩, s.l1, s.l2, s.l3, s.l4, s.l5⟩ ∧ SO y8 w.heap.size w.heap.size s3 (.slice a4 s3.l.length c4) (.slice a5 s3.ms.length c5) := ⟨_, by rw [← HS2.out], hso⟩
 have HS3 := Lib.hid hs3
 have HY8 := Lib.hid (HYA.out.op hso3 hb8 hk8)
 have hxb : X ≠ w.heap.size := by have := HXL.out; omega
 have HX8 : Hid (RC y8 X R.2) := Lib.hid (by
  obtain ⟨ps, hr, _⟩ := HYA.out.so.es
  exact (hk8 X HX.out.lt hxb (row_off hr HX.out (by decide)) (row_off HYA.out.so.ms HX.out (by decide))).trans HX.out)
 clear hso hso3 hb8 hk8 HX HYA hs3
 obtain ⟨_, _, _, _, _, _, d6, d7⟩ := HY8.out.db.cells
 go_wp2_with fail
 have HSS : Hid (∀ W', Below y8.heap.size y8 W' → W'.cell? ⟨w.heap.size + 1, 6, none⟩ = some (.int .i64 d.req) ∧ W'.cell? ⟨w.heap.size + 1, 7, none⟩ = some (.int .i64 d.low)) := Lib.hid (fun W' hW => ⟨cell_kept hW (Nat.le_refl _) d6, cell_kept hW (Nat.le_refl _) d7⟩)
 have hS0 := HSS.out _ (Below.refl y8.heap.size y8).drew
 refine wp_region_last (S := fun W' => W'.cell? ⟨w.heap.size + 1, 6, none⟩ = some (.int .i64 d.req) ∧ W'.cell? ⟨w.heap.size + 1, 7, none⟩ = some (.int .i64 d.low)) (by kernel_rfl) (ops := List.toArray [_, _, _, _, _]) (o := _) rfl (by kernel_rfl) ?_
 refine tk 0 (.pointer (some ⟨w.heap.size + 1, 6, none⟩)) rfl ?_ hS0 ?_
 ·intro w' ⟨s0, s1⟩; go_simp
 refine tk 1 (.int .i64 d.req) rfl ?_ hS0 ?_
 ·intro w' ⟨s0, s1⟩; go_simp
 refine tk 3 (.pointer (some ⟨w.heap.size + 1, 7, none⟩)) rfl ?_ hS0 ?_
 ·intro w' ⟨s0, s1⟩; go_simp
 refine tk 4 (.int .i64 d.low) rfl ?_ hS0 ?_
 ·intro w' ⟨s0, s1⟩; go_simp
 simp only [List.getElem_toArray, List.getElem_cons_succ, List.getElem_cons_zero, Act.put, List.setIfInBounds_toArray, List.set_cons_zero, List.set_cons_succ]
 clear hS0 d6 d7
 refine wpAnyH_ready (rs := [2]) (by kernel_rfl) (by simp) ?_
 refine AllReadyH.cons rfl (fun K hK => ?_) AllReadyH.nil
 simp only [List.getElem_toArray, List.getElem_cons_succ, List.getElem_cons_zero]
 go_simp
 refine (HH.out _).mono ?_
 rintro _ _ ⟨rfl, rfl⟩
 refine hK.out _ _ (HSS.out _ (Below.refl y8.heap.size y8).drew) (fun _ => ?_)
 clear hK HSS
 have HYD := Lib.hid (HY8.out.below (Below.refl y8.heap.size y8).drew)
 have HXD8 : Hid (RC y8.drew X R.2) := Lib.hid HX8.out
 clear HY8 HX8
 generalize y8.drew = Y8a at *
 refine wpAnyH_done (by kernel_rfl) ?_ _
 rw [Exit.then]
 rw [if_pos (by rfl)]
 go_simp
 have hco := HFG.out s3 _ _ Y8a R.2 (by rw [HS3.out]) HYD.out.so HYD.out.bl.size
 refine hco.mono ?_
 clear hco HFG
 rw [HS9.out s3 HS3.out]
 rintro _ y9 ⟨rfl, ⟨a6, c6, a7, c7, hso⟩, hb9, hk9⟩
 have hyd := HYD.out.op hso hb9 hk9
 have HX9 : Hid (RC y9 X R.2) := Lib.hid (by
  obtain ⟨ps, hr, _⟩ := HYD.out.so.es
  exact (hk9 X HXD8.out.lt hxb (row_off hr HXD8.out (by decide)) (row_off HYD.out.so.ms HXD8.out (by decide))).trans HXD8.out)
 obtain ⟨m1, hm1⟩ : ∃ n, S9.l.length = n := ⟨_, rfl⟩
 obtain ⟨m2, hm2⟩ : ∃ n, S9.ms.length = n := ⟨_, rfl⟩
 rw [hm1, hm2] at hyd
 have HY9 := Lib.hid hyd
 clear HN
 have HN := Lib.hid (And.intro hm1 hm2)
 clear hyd hso hb9 hk9 HYD HXD8 hm1 hm2 HS9 HS3
 go_wp2_with fail
 have hS0 : BC y9.drew w.heap.size S9 (.slice a6 m1 c6) (.slice a7 m2 c7) ∧ RC y9.drew X R.2 := ⟨HY9.out.so.bc, HX9.out⟩
 refine wp_region_held_drew (S := fun W' => BC W' w.heap.size S9 (.slice a6 m1 c6) (.slice a7 m2 c7) ∧ RC W' X R.2) (by kernel_rfl) hS0 (fun _ => ?_)
 refine tk 0 (.agg #[.int .i64 S9.seq, .slice a6 m1 c6, .slice a7 m2 c7, .int .i64 S9.l1, .int .i64 S9.l2, .int .i64 S9.l3, .int .i64 S9.l4, .int .i64 S9.l5]) rfl ?_ hS0 ?_
 ·intro w' hw
  obtain ⟨q0, q1, q2, q3, q4, q5, q6, q7⟩ := hw.1.cells
  go_simp
 refine tk 1 (.agg #[.int .i64 R.2.err, .int .i64 R.2.ver]) rfl ?_ hS0 ?_
 ·intro w' hw
  obtain ⟨q0, q1, _, _⟩ := hw.2.facts
  go_simp
 simp only [List.getElem_toArray, List.getElem_cons_succ, List.getElem_cons_zero, Act.put, List.setIfInBounds_toArray, List.set_cons_zero, List.set_cons_succ]
 clear hS0
 have HDR := Lib.hid (HY9.out.below (Below.refl y9.heap.size y9).drew)
 have HXD : Hid (RC y9.drew X R.2) := Lib.hid HX9.out
 generalize y9.drew = Y6 at *
 obtain ⟨hm1, hm2⟩ := HDR.out.mid
 obtain ⟨hf1, hf2, hf3⟩ := DoW.fin (by rw [HN.out.1, HN.out.2]; exact HDR.out) R.2
 rw [HN.out.1, HN.out.2] at hf1 hf2 hf3
 unfold bstore at hm1 hm2 hf1 hf2 hf3
 try unfold bagg at hf3
 try dsimp only at hm1 hm2 hf1 hf2 hf3
 have hmx : RC (bstore Y6 (w.heap.size + 1 + 1) S9 (.slice a6 m1 c6) (.slice a7 m2 c7)) X R.2 := (bstore_heap _ _ _ _ _ (by have := HXL.out; omega)).trans HXD.out
 unfold bstore at hmx
 have HMX := Lib.hid hmx
 have HM1 := Lib.hid hm1
 clear hmx
 have HM2 := Lib.hid hm2
 have HF := Lib.hid (And.intro hf1 (And.intro hf2 hf3))
 clear hm1 hm2 hf1 hf2 hf3
 obtain ⟨z0, z1, z2, z3, z4, z5, z6, z7⟩ := BC.cells (s := Bk.zero) HDR.out.rz
 dsimp only [Bk.zero] at z0 z1 z2 z3 z4 z5 z6 z7
 have g0 := HDR.out.rz.free 0
 have g1 := HDR.out.rz.free 1
 have g2 := HDR.out.rz.free 2
 have g3 := HDR.out.rz.free 3
 have g4 := HDR.out.rz.free 4
 have g5 := HDR.out.rz.free 5
 have g6 := HDR.out.rz.free 6
 have g7 := HDR.out.rz.free 7
 refine wpAnyH_ready (rs := [2]) (by kernel_rfl) (by simp) ?_
 refine AllReadyH.cons rfl (fun K hK => ?_) AllReadyH.nil
 simp only [List.getElem_toArray, List.getElem_cons_succ, List.getElem_cons_zero]
 go_simp
 refine hK.out _ _ ⟨HM1.out, HMX.out⟩ (fun _ => ?_)
 clear hK z0 z1 z2 z3 z4 z5 z6 z7 g0 g1 g2 g3 g4 g5 g6 g7
 generalize ((((((((Y6.setCell ⟨w.heap.size + 1 + 1, 0, none⟩ (.int .i64 S9.seq)).setCell ⟨w.heap.size + 1 + 1, 1, none⟩ (.slice a6 m1 c6)).setCell ⟨w.heap.size + 1 + 1, 2, none⟩ (.slice a7 m2 c7)).setCell ⟨w.heap.size + 1 + 1, 3, none⟩ (.int .i64 S9.l1)).setCell ⟨w.heap.size + 1 + 1, 4, none⟩ (.int .i64 S9.l2)).setCell ⟨w.heap.size + 1 + 1, 5, none⟩ (.int .i64 S9.l3)).setCell ⟨w.heap.size + 1 + 1, 6, none⟩ (.int .i64 S9.l4)).setCell ⟨w.heap.size + 1 + 1, 7, none⟩ (.int .i64 S9.l5)) = Y9 at *
 have hms : BC ((Y9.setCell ⟨w.heap.size + 1 + 1 + 1, 0, none⟩ (.int .i64 R.2.err)).setCell ⟨w.heap.size + 1 + 1 + 1, 1, none⟩ (.int .i64 R.2.ver)) w.heap.size S9 (.slice a6 m1 c6) (.slice a7 m2 c7) ∧ RC ((Y9.setCell ⟨w.heap.size + 1 + 1 + 1, 0, none⟩ (.int .i64 R.2.err)).setCell ⟨w.heap.size + 1 + 1 + 1, 1, none⟩ (.int .i64 R.2.ver)) X R.2 := by
  have hb3 : w.heap.size ≠ w.heap.size + 1 + 1 + 1 := by omega
  have hx3 : X ≠ w.heap.size + 1 + 1 + 1 := by have := HXL.out; omega
  refine ⟨?_, ?_⟩
  ·unfold BC
   rw [Below.heap_setCell _ _ _ _ hb3, Below.heap_setCell _ _ _ _ hb3]
   exact HM1.out
  ·unfold RC
   rw [Below.heap_setCell _ _ _ _ hx3, Below.heap_setCell _ _ _ _ hx3]
   exact HMX.out
 have HMS := Lib.hid hms
 clear hms
 obtain ⟨x0, x1, xf0, xf1⟩ := HM2.out.facts
 try dsimp only at x0 x1
 have hlt9 := HM2.out.lt
 refine wpAnyH_ready (rs := [3]) (by kernel_rfl) (by simp) ?_
 refine AllReadyH.cons rfl (fun K hK => ?_) AllReadyH.nil
 simp only [List.getElem_toArray, List.getElem_cons_succ, List.getElem_cons_zero]
 go_simp
 refine hK.out _ _ HMS.out (fun _ => ?_)
 clear hK
 refine wpAnyH_done (by kernel_rfl) ?_ _
 go_wp2_with fail
 obtain ⟨t0, t1, t2, t3, t4, t5, t6, t7⟩ := HF.out.1.cells
 obtain ⟨r0, r1, _⟩ := HF.out.2.1.facts
 try dsimp only at t0 t1 t2 t3 t4 t5 t6 t7 r0 r1
 have HF3 := HF.out.2.2
 clear x0 x1 xf0 xf1 HF
 generalize (Y9.setCell ⟨w.heap.size + 1 + 1 + 1, 0, none⟩ (.int .i64 R.2.err)).setCell ⟨w.heap.size + 1 + 1 + 1, 1, none⟩ (.int .i64 R.2.ver) = Y8 at *
 exact bodyPost_ret (v := .tuple #[.agg #[.int .i64 S9.seq, .slice a6 m1 c6, .slice a7 m2 c7, .int .i64 S9.l1, .int .i64 S9.l2, .int .i64 S9.l3, .int .i64 S9.l4, .int .i64 S9.l5], .agg #[.int .i64 R.2.err, .int .i64 R.2.ver]]) (by simp [results, Tryz.results7, go_sem, t0, t1, t2, t3, t4, t5, t6, t7, r0, r1]) rfl HF3
end Go.Proofs.YtlpgphiccjkenaaGreatDoor
