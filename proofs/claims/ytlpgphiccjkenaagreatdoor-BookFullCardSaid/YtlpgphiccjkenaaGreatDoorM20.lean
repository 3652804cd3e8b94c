/-
 Contracts of the program, and what they rest on.
-/
import Derived.Test.YtlpgphiccjkenaaGreatDoorTk
import Derived.Test.YtlpgphiccjkenaaGreatDoorM18
import Derived.Test.YtlpgphiccjkenaaGreatDoorM19
set_option maxRecDepth 100000
set_option maxHeartbeats 16000000
namespace Go.Proofs.YtlpgphiccjkenaaGreatDoor
open Go.RowKit
theorem do_bad1 (s : Bk) (u v : Value) (d : De) (w : World) (h : BAt w s u v) (hwf : s.wf) (hdwf : d.wf) (hlib : LibAt w) (b : Bool) (hb : b = true ↔ mayD d) (hmay : bmay s = false) :
  Calls Tryz.prog 7 #[bagg s u v, dagg d] w (DoAns (s, ⟨1, 0⟩) w) := by
 obtain ⟨ad, cap, rfl, _⟩ := h.es.shape
 obtain ⟨ad', cap', rfl, _⟩ := h.ms.shape
 have HM := Lib.hid (fun W (hW : Below w.heap.size w W) => bmay_p s _ _ W (h.below hW) hwf)
 have HDM := Lib.hid (fun W (hW : Below w.heap.size w W) => dmay_p d b hb hdwf W (hlib.1.below hW) (hlib.2.1.below hW))
 have HCP := Lib.hid (fun W (hW : Below w.heap.size w W) => bcopied_p s _ _ W (h.below hW))
 rw [hmay] at HM
 obtain ⟨n1, hn1⟩ : ∃ n, s.l.length = n := ⟨_, rfl⟩
 obtain ⟨n2, hn2⟩ : ∃ n, s.ms.length = n := ⟨_, rfl⟩
 have HN := Lib.hid (And.intro hn1 hn2)
 unfold BAns at HCP
 rw [hn1, hn2] at HM HCP ⊢
 have HW0 : Hid (∀ W, W = ((((w.alloc (.cells #[.int .i64 s.seq, .slice ad n1 cap, .slice ad' n2 cap', .int .i64 s.l1, .int .i64 s.l2, .int .i64 s.l3, .int .i64 s.l4, .int .i64 s.l5] 27)).alloc (.cells #[.int .i64 d.kind, .string d.key, .string d.body, .int .i64 d.ver, .int .i64 d.cond, .string d.tag, .int .i64 d.req, .int .i64 d.low] 35)).alloc (.cells #[.int .i64 0, .slice none 0 0, .slice none 0 0, .int .i64 0, .int .i64 0, .int .i64 0, .int .i64 0, .int .i64 0] 27)).alloc (.cells #[.int .i64 0, .int .i64 0] 30)) → Below w.heap.size w W ∧ BC W w.heap.size s (.slice ad n1 cap) (.slice ad' n2 cap') ∧ DB W (w.heap.size + 1) d ∧ BC W (w.heap.size + 1 + 1) Bk.zero (.slice none 0 0) (.slice none 0 0) ∧ RC W (w.heap.size + 1 + 1 + 1) ⟨0, 0⟩ ∧ w.heap.size + 4 ≤ W.heap.size) := Lib.hid (by
  rintro _ rfl
  refine ⟨(((Below.refl _ w).alloc (Nat.le_refl _) _).alloc (by simp) _).alloc (by simp; omega) _ |>.alloc (by simp; omega) _, ?_, ?_, ?_, ?_, by simp⟩
  ·unfold BC
   rw [heap_alloc_old _ _ (by simp; omega), heap_alloc_old _ _ (by simp; omega), heap_alloc_old _ _ (by simp), heap_alloc_new]
   rfl
  ·unfold DB
   rw [heap_alloc_old _ _ (by simp), heap_alloc_old _ _ (by simp)]
   have := heap_alloc_new (w.alloc (.cells #[.int .i64 s.seq, .slice ad n1 cap, .slice ad' n2 cap', .int .i64 s.l1, .int .i64 s.l2, .int .i64 s.l3, .int .i64 s.l4, .int .i64 s.l5] 27)) (.cells #[.int .i64 d.kind, .string d.key, .string d.body, .int .i64 d.ver, .int .i64 d.cond, .string d.tag, .int .i64 d.req, .int .i64 d.low] 35)
   simpa using this
  ·unfold BC
   rw [heap_alloc_old _ _ (by simp)]
   have := heap_alloc_new ((w.alloc (.cells #[.int .i64 s.seq, .slice ad n1 cap, .slice ad' n2 cap', .int .i64 s.l1, .int .i64 s.l2, .int .i64 s.l3, .int .i64 s.l4, .int .i64 s.l5] 27)).alloc (.cells #[.int .i64 d.kind, .string d.key, .string d.body, .int .i64 d.ver, .int .i64 d.cond, .string d.tag, .int .i64 d.req, .int .i64 d.low] 35)) (.cells #[.int .i64 0, .slice none 0 0, .slice none 0 0, .int .i64 0, .int .i64 0, .int .i64 0, .int .i64 0, .int .i64 0] 27)
   unfold bcells Bk.zero
   simpa using this
  ·unfold RC
   have := heap_alloc_new (((w.alloc (.cells #[.int .i64 s.seq, .slice ad n1 cap, .slice ad' n2 cap', .int .i64 s.l1, .int .i64 s.l2, .int .i64 s.l3, .int .i64 s.l4, .int .i64 s.l5] 27)).alloc (.cells #[.int .i64 d.kind, .string d.key, .string d.body, .int .i64 d.ver, .int .i64 d.cond, .string d.tag, .int .i64 d.req, .int .i64 d.low] 35)).alloc (.cells #[.int .i64 0, .slice none 0 0, .slice none 0 0, .int .i64 0, .int .i64 0, .int .i64 0, .int .i64 0, .int .i64 0] 27)) (.cells #[.int .i64 0, .int .i64 0] 30)
   simpa using this)
 clear h hwf hdwf hlib hn1 hn2 hmay hb
 unfold dagg at *
 unfold bagg at *
 go_enter Tryz.func7, Tryz.ntmps7
 go_wp2_with fail
 generalize ((((w.alloc (.cells #[.int .i64 s.seq, .slice ad n1 cap, .slice ad' n2 cap', .int .i64 s.l1, .int .i64 s.l2, .int .i64 s.l3, .int .i64 s.l4, .int .i64 s.l5] 27)).alloc (.cells #[.int .i64 d.kind, .string d.key, .string d.body, .int .i64 d.ver, .int .i64 d.cond, .string d.tag, .int .i64 d.req, .int .i64 d.low] 35)).alloc (.cells #[.int .i64 0, .slice none 0 0, .slice none 0 0, .int .i64 0, .int .i64 0, .int .i64 0, .int .i64 0, .int .i64 0] 27)).alloc (.cells #[.int .i64 0, .int .i64 0] 30)) = W at *
 obtain ⟨hbW, h0, h1, h2, h3, hsW⟩ := HW0.out W rfl
 refine (HM.out W hbW).mono ?_
 rintro _ w1 ⟨rfl, hb1⟩
 obtain ⟨q0, q1, q2, q3, q4, q5, q6, q7⟩ := (h0.below hb1).cells
 go_wp2_with fail
 refine (HCP.out w1 (hbW.trans (hb1.mono hbW.size))).mono ?_
 rintro _ w3 ⟨a1, c1, a2, c2, rfl, ho1, ho2, hb3⟩
 have hbb := hb1.trans (hb3.mono hb1.size)
 have hst := DoW.start (Nat.le_trans hsW hb1.size) (h0.below hbb) (h1.below hbb) (h2.below hbb) (h3.below hbb) (hbW.trans (hbb.mono hbW.size)) ho1 ho2
 have HY := Lib.hid hst
 have hcc := h0.below hbb
 clear q0 q1 q2 q3 q4 q5 q6 q7 hst ho1 ho2 hb3 hb1 h0 h1 h2 h3 hbW HW0 HM HDM HCP
 obtain ⟨q0, q1, q2, q3, q4, q5, q6, q7⟩ := hcc.cells
 have f0 := hcc.free 0
 have f1 := hcc.free 1
 have f2 := hcc.free 2
 have f3 := hcc.free 3
 have f4 := hcc.free 4
 have f5 := hcc.free 5
 have f6 := hcc.free 6
 have f7 := hcc.free 7
 clear hcc hbb
 go_wp2_with fail
 unfold bstore at HY
 generalize ((((((((w3.setCell ⟨w.heap.size, 0, none⟩ (.int .i64 s.seq)).setCell ⟨w.heap.size, 1, none⟩ (.slice a1 n1 c1)).setCell ⟨w.heap.size, 2, none⟩ (.slice a2 n2 c2)).setCell ⟨w.heap.size, 3, none⟩ (.int .i64 s.l1)).setCell ⟨w.heap.size, 4, none⟩ (.int .i64 s.l2)).setCell ⟨w.heap.size, 5, none⟩ (.int .i64 s.l3)).setCell ⟨w.heap.size, 6, none⟩ (.int .i64 s.l4)).setCell ⟨w.heap.size, 7, none⟩ (.int .i64 s.l5)) = Y at *
 clear q0 q1 q2 q3 q4 q5 q6 q7 f0 f1 f2 f3 f4 f5 f6 f7
 obtain ⟨q0, q1, q2, q3, q4, q5, q6, q7⟩ := HY.out.so.bc.cells
 go_wp2_with fail
 clear q0 q1 q2 q3 q4 q5 q6 q7
 have hS0 : BC Y.drew w.heap.size s (.slice a1 n1 c1) (.slice a2 n2 c2) := HY.out.so.bc
 refine wp_region_last (S := fun W' => BC W' w.heap.size s (.slice a1 n1 c1) (.slice a2 n2 c2)) (by kernel_rfl) (ops := List.toArray [_, _, _]) (o := _) rfl (by kernel_rfl) ?_
 refine tk 0 (.agg #[.int .i64 s.seq, .slice a1 n1 c1, .slice a2 n2 c2, .int .i64 s.l1, .int .i64 s.l2, .int .i64 s.l3, .int .i64 s.l4, .int .i64 s.l5]) rfl ?_ hS0 ?_
 ·intro w' hw
  obtain ⟨q0, q1, q2, q3, q4, q5, q6, q7⟩ := hw.cells
  go_simp
 simp only [List.getElem_toArray, List.getElem_cons_zero, Act.put, List.setIfInBounds_toArray, List.set_cons_zero, List.set_cons_succ]
 clear hS0
 refine wpAnyH_ready (rs := [1]) (by kernel_rfl) (by simp) ?_
 refine AllReadyH.cons rfl (fun K hK => ?_) AllReadyH.nil
 simp only [List.getElem_toArray, List.getElem_cons_succ, List.getElem_cons_zero]
 go_simp
 refine (failed_p 1 _).mono ?_
 rintro _ y ⟨rfl, hb1⟩
 have HYY := Lib.hid (HY.out.below ((Below.refl Y.heap.size Y).drew.trans hb1))
 clear hb1
 refine hK.out _ _ HYY.out.so.bc (fun _ => ?_)
 clear hK
 obtain ⟨hm1, hm2⟩ := HYY.out.mid
 obtain ⟨hf1, hf2, hf3⟩ := DoW.fin (by rw [HN.out.1, HN.out.2]; exact HYY.out) ⟨1, 0⟩
 rw [HN.out.1, HN.out.2] at hf1 hf2 hf3
 unfold bstore at hm1 hm2 hf1 hf2 hf3
 try unfold bagg at hf3
 try dsimp only at hm1 hm2 hf1 hf2 hf3
 have HM1 := Lib.hid hm1
 have HM2 := Lib.hid hm2
 have HF := Lib.hid (And.intro hf1 (And.intro hf2 hf3))
 clear hm1 hm2 hf1 hf2 hf3
 obtain ⟨z0, z1, z2, z3, z4, z5, z6, z7⟩ := BC.cells (s := Bk.zero) HYY.out.rz
 dsimp only [Bk.zero] at z0 z1 z2 z3 z4 z5 z6 z7
 have g0 := HYY.out.rz.free 0
 have g1 := HYY.out.rz.free 1
 have g2 := HYY.out.rz.free 2
 have g3 := HYY.out.rz.free 3
 have g4 := HYY.out.rz.free 4
 have g5 := HYY.out.rz.free 5
 have g6 := HYY.out.rz.free 6
 have g7 := HYY.out.rz.free 7
 refine wpAnyH_ready (rs := [2]) (by kernel_rfl) (by simp) ?_
 refine AllReadyH.cons rfl (fun K hK => ?_) AllReadyH.nil
 simp only [List.getElem_toArray, List.getElem_cons_succ, List.getElem_cons_zero]
 go_simp
 refine hK.out _ _ HM1.out (fun _ => ?_)
 clear hK z0 z1 z2 z3 z4 z5 z6 z7 g0 g1 g2 g3 g4 g5 g6 g7
 generalize ((((((((y.setCell ⟨w.heap.size + 1 + 1, 0, none⟩ (.int .i64 s.seq)).setCell ⟨w.heap.size + 1 + 1, 1, none⟩ (.slice a1 n1 c1)).setCell ⟨w.heap.size + 1 + 1, 2, none⟩ (.slice a2 n2 c2)).setCell ⟨w.heap.size + 1 + 1, 3, none⟩ (.int .i64 s.l1)).setCell ⟨w.heap.size + 1 + 1, 4, none⟩ (.int .i64 s.l2)).setCell ⟨w.heap.size + 1 + 1, 5, none⟩ (.int .i64 s.l3)).setCell ⟨w.heap.size + 1 + 1, 6, none⟩ (.int .i64 s.l4)).setCell ⟨w.heap.size + 1 + 1, 7, none⟩ (.int .i64 s.l5)) = Y9 at *
 refine wpAnyH_done (by kernel_rfl) ?_ _
 obtain ⟨x0, x1, xf0, xf1⟩ := HM2.out.facts
 try dsimp only at x0 x1
 have hlt9 := HM2.out.lt
 rw [Exit.then]
 rw [if_pos (by rfl)]
 go_simp
 go_wp2_with fail
 obtain ⟨t0, t1, t2, t3, t4, t5, t6, t7⟩ := HF.out.1.cells
 obtain ⟨r0, r1, _⟩ := HF.out.2.1.facts
 try dsimp only at t0 t1 t2 t3 t4 t5 t6 t7 r0 r1
 have HF3 := HF.out.2.2
 clear x0 x1 xf0 xf1 HF
 generalize (Y9.setCell ⟨w.heap.size + 1 + 1 + 1, 0, none⟩ (.int .i64 1)).setCell ⟨w.heap.size + 1 + 1 + 1, 1, none⟩ (.int .i64 0) = Y8 at *
 exact bodyPost_ret (v := .tuple #[.agg #[.int .i64 s.seq, .slice a1 n1 c1, .slice a2 n2 c2, .int .i64 s.l1, .int .i64 s.l2, .int .i64 s.l3, .int .i64 s.l4, .int .i64 s.l5], .agg #[.int .i64 1, .int .i64 0]]) (by simp [results, Tryz.results7, go_sem, t0, t1, t2, t3, t4, t5, t6, t7, r0, r1]) rfl HF3
theorem do_full (s : Bk) (u v : Value) (d : De) (w : World) (h : BAt w s u v) (hwf : s.wf) (hdwf : d.wf) (hlib : LibAt w) (hb : true = true ↔ mayD d) (hmay : bmay s = true) (hq : s.seq = 1099511627776) :
  Calls Tryz.prog 7 #[bagg s u v, dagg d] w (DoAns (s, ⟨5, 0⟩) w) := by
 have hqb : (s.seq == 1099511627776) = true := by simp [hq]
 clear hq
 obtain ⟨ad, cap, rfl, _⟩ := h.es.shape
 obtain ⟨ad', cap', rfl, _⟩ := h.ms.shape
 have HM := Lib.hid (fun W (hW : Below w.heap.size w W) => bmay_p s _ _ W (h.below hW) hwf)
 have HDM := Lib.hid (fun W (hW : Below w.heap.size w W) => dmay_p d true hb hdwf W (hlib.1.below hW) (hlib.2.1.below hW))
 have HCP := Lib.hid (fun W (hW : Below w.heap.size w W) => bcopied_p s _ _ W (h.below hW))
 rw [hmay] at HM
 obtain ⟨n1, hn1⟩ : ∃ n, s.l.length = n := ⟨_, rfl⟩
 obtain ⟨n2, hn2⟩ : ∃ n, s.ms.length = n := ⟨_, rfl⟩
 have HN := Lib.hid (And.intro hn1 hn2)
 unfold BAns at HCP
 rw [hn1, hn2] at HM HCP ⊢
 have HW0 : Hid (∀ W, W = ((((w.alloc (.cells #[.int .i64 s.seq, .slice ad n1 cap, .slice ad' n2 cap', .int .i64 s.l1, .int .i64 s.l2, .int .i64 s.l3, .int .i64 s.l4, .int .i64 s.l5] 27)).alloc (.cells #[.int .i64 d.kind, .string d.key, .string d.body, .int .i64 d.ver, .int .i64 d.cond, .string d.tag, .int .i64 d.req, .int .i64 d.low] 35)).alloc (.cells #[.int .i64 0, .slice none 0 0, .slice none 0 0, .int .i64 0, .int .i64 0, .int .i64 0, .int .i64 0, .int .i64 0] 27)).alloc (.cells #[.int .i64 0, .int .i64 0] 30)) → Below w.heap.size w W ∧ BC W w.heap.size s (.slice ad n1 cap) (.slice ad' n2 cap') ∧ DB W (w.heap.size + 1) d ∧ BC W (w.heap.size + 1 + 1) Bk.zero (.slice none 0 0) (.slice none 0 0) ∧ RC W (w.heap.size + 1 + 1 + 1) ⟨0, 0⟩ ∧ w.heap.size + 4 ≤ W.heap.size) := Lib.hid (by
  rintro _ rfl
  refine ⟨(((Below.refl _ w).alloc (Nat.le_refl _) _).alloc (by simp) _).alloc (by simp; omega) _ |>.alloc (by simp; omega) _, ?_, ?_, ?_, ?_, by simp⟩
  ·unfold BC
   rw [heap_alloc_old _ _ (by simp; omega), heap_alloc_old _ _ (by simp; omega), heap_alloc_old _ _ (by simp), heap_alloc_new]
   rfl
  ·unfold DB
   rw [heap_alloc_old _ _ (by simp), heap_alloc_old _ _ (by simp)]
   have := heap_alloc_new (w.alloc (.cells #[.int .i64 s.seq, .slice ad n1 cap, .slice ad' n2 cap', .int .i64 s.l1, .int .i64 s.l2, .int .i64 s.l3, .int .i64 s.l4, .int .i64 s.l5] 27)) (.cells #[.int .i64 d.kind, .string d.key, .string d.body, .int .i64 d.ver, .int .i64 d.cond, .string d.tag, .int .i64 d.req, .int .i64 d.low] 35)
   simpa using this
  ·unfold BC
   rw [heap_alloc_old _ _ (by simp)]
   have := heap_alloc_new ((w.alloc (.cells #[.int .i64 s.seq, .slice ad n1 cap, .slice ad' n2 cap', .int .i64 s.l1, .int .i64 s.l2, .int .i64 s.l3, .int .i64 s.l4, .int .i64 s.l5] 27)).alloc (.cells #[.int .i64 d.kind, .string d.key, .string d.body, .int .i64 d.ver, .int .i64 d.cond, .string d.tag, .int .i64 d.req, .int .i64 d.low] 35)) (.cells #[.int .i64 0, .slice none 0 0, .slice none 0 0, .int .i64 0, .int .i64 0, .int .i64 0, .int .i64 0, .int .i64 0] 27)
   unfold bcells Bk.zero
   simpa using this
  ·unfold RC
   have := heap_alloc_new (((w.alloc (.cells #[.int .i64 s.seq, .slice ad n1 cap, .slice ad' n2 cap', .int .i64 s.l1, .int .i64 s.l2, .int .i64 s.l3, .int .i64 s.l4, .int .i64 s.l5] 27)).alloc (.cells #[.int .i64 d.kind, .string d.key, .string d.body, .int .i64 d.ver, .int .i64 d.cond, .string d.tag, .int .i64 d.req, .int .i64 d.low] 35)).alloc (.cells #[.int .i64 0, .slice none 0 0, .slice none 0 0, .int .i64 0, .int .i64 0, .int .i64 0, .int .i64 0, .int .i64 0] 27)) (.cells #[.int .i64 0, .int .i64 0] 30)
   simpa using this)
 clear h hwf hdwf hlib hn1 hn2 hmay hb
 unfold dagg at *
 unfold bagg at *
 go_enter Tryz.func7, Tryz.ntmps7
 go_wp2_with fail
 generalize ((((w.alloc (.cells #[.int .i64 s.seq, .slice ad n1 cap, .slice ad' n2 cap', .int .i64 s.l1, .int .i64 s.l2, .int .i64 s.l3, .int .i64 s.l4, .int .i64 s.l5] 27)).alloc (.cells #[.int .i64 d.kind, .string d.key, .string d.body, .int .i64 d.ver, .int .i64 d.cond, .string d.tag, .int .i64 d.req, .int .i64 d.low] 35)).alloc (.cells #[.int .i64 0, .slice none 0 0, .slice none 0 0, .int .i64 0, .int .i64 0, .int .i64 0, .int .i64 0, .int .i64 0] 27)).alloc (.cells #[.int .i64 0, .int .i64 0] 30)) = W at *
 obtain ⟨hbW, h0, h1, h2, h3, hsW⟩ := HW0.out W rfl
 refine (HM.out W hbW).mono ?_
 rintro _ w1 ⟨rfl, hb1⟩
 obtain ⟨d0, d1, d2, d3, d4, d5, d6, d7⟩ := (h1.below hb1).cells
 go_wp2_with fail
 refine (HDM.out w1 (hbW.trans (hb1.mono hbW.size))).mono ?_
 rintro _ w1' ⟨rfl, hb1'⟩
 replace hb1 := hb1.trans (hb1'.mono hb1.size)
 clear d0 d1 d2 d3 d4 d5 d6 d7 hb1'
 obtain ⟨q0, q1, q2, q3, q4, q5, q6, q7⟩ := (h0.below hb1).cells
 go_wp2_with fail
 refine (HCP.out w1' (hbW.trans (hb1.mono hbW.size))).mono ?_
 rintro _ w3 ⟨a1, c1, a2, c2, rfl, ho1, ho2, hb3⟩
 have hbb := hb1.trans (hb3.mono hb1.size)
 have hst := DoW.start (Nat.le_trans hsW hb1.size) (h0.below hbb) (h1.below hbb) (h2.below hbb) (h3.below hbb) (hbW.trans (hbb.mono hbW.size)) ho1 ho2
 have HY := Lib.hid hst
 have hcc := h0.below hbb
 clear q0 q1 q2 q3 q4 q5 q6 q7 hst ho1 ho2 hb3 hb1 h0 h1 h2 h3 hbW HW0 HM HDM HCP
 obtain ⟨q0, q1, q2, q3, q4, q5, q6, q7⟩ := hcc.cells
 have f0 := hcc.free 0
 have f1 := hcc.free 1
 have f2 := hcc.free 2
 have f3 := hcc.free 3
 have f4 := hcc.free 4
 have f5 := hcc.free 5
 have f6 := hcc.free 6
 have f7 := hcc.free 7
 clear hcc hbb
 go_wp2_with fail
 unfold bstore at HY
 generalize ((((((((w3.setCell ⟨w.heap.size, 0, none⟩ (.int .i64 s.seq)).setCell ⟨w.heap.size, 1, none⟩ (.slice a1 n1 c1)).setCell ⟨w.heap.size, 2, none⟩ (.slice a2 n2 c2)).setCell ⟨w.heap.size, 3, none⟩ (.int .i64 s.l1)).setCell ⟨w.heap.size, 4, none⟩ (.int .i64 s.l2)).setCell ⟨w.heap.size, 5, none⟩ (.int .i64 s.l3)).setCell ⟨w.heap.size, 6, none⟩ (.int .i64 s.l4)).setCell ⟨w.heap.size, 7, none⟩ (.int .i64 s.l5)) = Y at *
 clear q0 q1 q2 q3 q4 q5 q6 q7 f0 f1 f2 f3 f4 f5 f6 f7
 obtain ⟨q0, q1, q2, q3, q4, q5, q6, q7⟩ := HY.out.so.bc.cells
 go_wp2_with fail
 clear q0 q1 q2 q3 q4 q5 q6 q7
 have hS0 : BC Y.drew w.heap.size s (.slice a1 n1 c1) (.slice a2 n2 c2) := HY.out.so.bc
 refine wp_region_last (S := fun W' => BC W' w.heap.size s (.slice a1 n1 c1) (.slice a2 n2 c2)) (by kernel_rfl) (ops := List.toArray [_, _, _]) (o := _) rfl (by kernel_rfl) ?_
 refine tk 0 (.agg #[.int .i64 s.seq, .slice a1 n1 c1, .slice a2 n2 c2, .int .i64 s.l1, .int .i64 s.l2, .int .i64 s.l3, .int .i64 s.l4, .int .i64 s.l5]) rfl ?_ hS0 ?_
 ·intro w' hw
  obtain ⟨q0, q1, q2, q3, q4, q5, q6, q7⟩ := hw.cells
  go_simp
 simp only [List.getElem_toArray, List.getElem_cons_zero, Act.put, List.setIfInBounds_toArray, List.set_cons_zero, List.set_cons_succ]
 clear hS0
 refine wpAnyH_ready (rs := [1]) (by kernel_rfl) (by simp) ?_
 refine AllReadyH.cons rfl (fun K hK => ?_) AllReadyH.nil
 simp only [List.getElem_toArray, List.getElem_cons_succ, List.getElem_cons_zero]
 go_simp
 refine (failed_p 5 _).mono ?_
 rintro _ y ⟨rfl, hb1⟩
 have HYY := Lib.hid (HY.out.below ((Below.refl Y.heap.size Y).drew.trans hb1))
 clear hb1
 refine hK.out _ _ HYY.out.so.bc (fun _ => ?_)
 clear hK
 obtain ⟨hm1, hm2⟩ := HYY.out.mid
 obtain ⟨hf1, hf2, hf3⟩ := DoW.fin (by rw [HN.out.1, HN.out.2]; exact HYY.out) ⟨5, 0⟩
 rw [HN.out.1, HN.out.2] at hf1 hf2 hf3
 unfold bstore at hm1 hm2 hf1 hf2 hf3
 try unfold bagg at hf3
 try dsimp only at hm1 hm2 hf1 hf2 hf3
 have HM1 := Lib.hid hm1
 have HM2 := Lib.hid hm2
 have HF := Lib.hid (And.intro hf1 (And.intro hf2 hf3))
 clear hm1 hm2 hf1 hf2 hf3
 obtain ⟨z0, z1, z2, z3, z4, z5, z6, z7⟩ := BC.cells (s := Bk.zero) HYY.out.rz
 dsimp only [Bk.zero] at z0 z1 z2 z3 z4 z5 z6 z7
 have g0 := HYY.out.rz.free 0
 have g1 := HYY.out.rz.free 1
 have g2 := HYY.out.rz.free 2
 have g3 := HYY.out.rz.free 3
 have g4 := HYY.out.rz.free 4
 have g5 := HYY.out.rz.free 5
 have g6 := HYY.out.rz.free 6
 have g7 := HYY.out.rz.free 7
 refine wpAnyH_ready (rs := [2]) (by kernel_rfl) (by simp) ?_
 refine AllReadyH.cons rfl (fun K hK => ?_) AllReadyH.nil
 simp only [List.getElem_toArray, List.getElem_cons_succ, List.getElem_cons_zero]
 go_simp
 refine hK.out _ _ HM1.out (fun _ => ?_)
 clear hK z0 z1 z2 z3 z4 z5 z6 z7 g0 g1 g2 g3 g4 g5 g6 g7
 generalize ((((((((y.setCell ⟨w.heap.size + 1 + 1, 0, none⟩ (.int .i64 s.seq)).setCell ⟨w.heap.size + 1 + 1, 1, none⟩ (.slice a1 n1 c1)).setCell ⟨w.heap.size + 1 + 1, 2, none⟩ (.slice a2 n2 c2)).setCell ⟨w.heap.size + 1 + 1, 3, none⟩ (.int .i64 s.l1)).setCell ⟨w.heap.size + 1 + 1, 4, none⟩ (.int .i64 s.l2)).setCell ⟨w.heap.size + 1 + 1, 5, none⟩ (.int .i64 s.l3)).setCell ⟨w.heap.size + 1 + 1, 6, none⟩ (.int .i64 s.l4)).setCell ⟨w.heap.size + 1 + 1, 7, none⟩ (.int .i64 s.l5)) = Y9 at *
 refine wpAnyH_done (by kernel_rfl) ?_ _
 obtain ⟨x0, x1, xf0, xf1⟩ := HM2.out.facts
 try dsimp only at x0 x1
 have hlt9 := HM2.out.lt
 rw [Exit.then]
 rw [if_pos (by rfl)]
 go_simp
 go_wp2_with fail
 obtain ⟨t0, t1, t2, t3, t4, t5, t6, t7⟩ := HF.out.1.cells
 obtain ⟨r0, r1, _⟩ := HF.out.2.1.facts
 try dsimp only at t0 t1 t2 t3 t4 t5 t6 t7 r0 r1
 have HF3 := HF.out.2.2
 clear x0 x1 xf0 xf1 HF
 generalize (Y9.setCell ⟨w.heap.size + 1 + 1 + 1, 0, none⟩ (.int .i64 5)).setCell ⟨w.heap.size + 1 + 1 + 1, 1, none⟩ (.int .i64 0) = Y8 at *
 exact bodyPost_ret (v := .tuple #[.agg #[.int .i64 s.seq, .slice a1 n1 c1, .slice a2 n2 c2, .int .i64 s.l1, .int .i64 s.l2, .int .i64 s.l3, .int .i64 s.l4, .int .i64 s.l5], .agg #[.int .i64 5, .int .i64 0]]) (by simp [results, Tryz.results7, go_sem, t0, t1, t2, t3, t4, t5, t6, t7, r0, r1]) rfl HF3
theorem do_mfull (s : Bk) (u v : Value) (d : De) (w : World) (h : BAt w s u v) (hwf : s.wf) (hdwf : d.wf) (hlib : LibAt w) (hb : true = true ↔ mayD d) (hmay : bmay s = true) (hs0 : 0 ≤ s.seq) (hs1 : s.seq < 1099511627776) (hh1 : 1 ≤ homeP d.req) (hh5 : homeP d.req ≤ 5) (hlo : ¬ d.req < (Bk.mk (s.seq + 1) s.l s.ms s.l1 s.l2 s.l3 s.l4 s.l5).low (homeP d.req)) (htd : toldR s.ms d.req = (⟨0, 0⟩, false)) (hfm : s.ms.length = 100) :
  Calls Tryz.prog 7 #[bagg s u v, dagg d] w (DoAns (Bk.mk (s.seq + 1) s.l s.ms s.l1 s.l2 s.l3 s.l4 s.l5, ⟨5, 0⟩) w) := by
 have hdl : decide (d.req < (Bk.mk (s.seq + 1) s.l s.ms s.l1 s.l2 s.l3 s.l4 s.l5).low (homeP d.req)) = false := decide_eq_false (by omega)
 clear hlo
 have HTO : Hid (∀ (t : Bk) u v W, t.l = s.l → t.ms = s.ms → EsAt W u t.l → MsAt W v t.ms → Calls Tryz.prog 16 #[.agg #[.int .i64 t.seq, u, v, .int .i64 t.l1, .int .i64 t.l2, .int .i64 t.l3, .int .i64 t.l4, .int .i64 t.l5], .int .i64 d.req] W fun e w' => e = .returned (.tuple #[.agg #[.int .i64 0, .int .i64 0], .bool false]) ∧ Below W.heap.size W w') := Lib.hid (fun t u v W e1 e2 hW hV => by
  refine (told_p t d.req u v W ⟨hW, hV, by rw [e1]; exact h.short, by rw [e2]; exact h.shortM, by rw [e1]; exact h.shortV⟩).mono ?_
  rintro _ w' ⟨rfl, hb⟩
  rw [e2, htd]
  exact ⟨rfl, hb⟩)
 clear htd
 have hqb : (s.seq == 1099511627776) = false := by rw [beq_eq_false_iff_ne]; omega
 have HH := Lib.hid (fun W => home_p d.req hdwf.2.2.2.1.1 hdwf.2.2.2.1.2 W)
 obtain ⟨ad, cap, rfl, _⟩ := h.es.shape
 obtain ⟨ad', cap', rfl, _⟩ := h.ms.shape
 have HM := Lib.hid (fun W (hW : Below w.heap.size w W) => bmay_p s _ _ W (h.below hW) hwf)
 have HDM := Lib.hid (fun W (hW : Below w.heap.size w W) => dmay_p d true hb hdwf W (hlib.1.below hW) (hlib.2.1.below hW))
 have HCP := Lib.hid (fun W (hW : Below w.heap.size w W) => bcopied_p s _ _ W (h.below hW))
 rw [hmay] at HM
 obtain ⟨n1, hn1⟩ : ∃ n, s.l.length = n := ⟨_, rfl⟩
 obtain ⟨n2, hn2⟩ : ∃ n, s.ms.length = n := ⟨_, rfl⟩
 have HN := Lib.hid (And.intro hn1 hn2)
 have hfn : ((n2 : Int) == 100) = true := by rw [← hn2, hfm]; rfl
 clear hfm
 unfold BAns at HCP
 rw [hn1, hn2] at HM HCP ⊢
 have HW0 : Hid (∀ W, W = ((((w.alloc (.cells #[.int .i64 s.seq, .slice ad n1 cap, .slice ad' n2 cap', .int .i64 s.l1, .int .i64 s.l2, .int .i64 s.l3, .int .i64 s.l4, .int .i64 s.l5] 27)).alloc (.cells #[.int .i64 d.kind, .string d.key, .string d.body, .int .i64 d.ver, .int .i64 d.cond, .string d.tag, .int .i64 d.req, .int .i64 d.low] 35)).alloc (.cells #[.int .i64 0, .slice none 0 0, .slice none 0 0, .int .i64 0, .int .i64 0, .int .i64 0, .int .i64 0, .int .i64 0] 27)).alloc (.cells #[.int .i64 0, .int .i64 0] 30)) → Below w.heap.size w W ∧ BC W w.heap.size s (.slice ad n1 cap) (.slice ad' n2 cap') ∧ DB W (w.heap.size + 1) d ∧ BC W (w.heap.size + 1 + 1) Bk.zero (.slice none 0 0) (.slice none 0 0) ∧ RC W (w.heap.size + 1 + 1 + 1) ⟨0, 0⟩ ∧ w.heap.size + 4 ≤ W.heap.size) := Lib.hid (by
  rintro _ rfl
  refine ⟨(((Below.refl _ w).alloc (Nat.le_refl _) _).alloc (by simp) _).alloc (by simp; omega) _ |>.alloc (by simp; omega) _, ?_, ?_, ?_, ?_, by simp⟩
  ·unfold BC
   rw [heap_alloc_old _ _ (by simp; omega), heap_alloc_old _ _ (by simp; omega), heap_alloc_old _ _ (by simp), heap_alloc_new]
   rfl
  ·unfold DB
   rw [heap_alloc_old _ _ (by simp), heap_alloc_old _ _ (by simp)]
   have := heap_alloc_new (w.alloc (.cells #[.int .i64 s.seq, .slice ad n1 cap, .slice ad' n2 cap', .int .i64 s.l1, .int .i64 s.l2, .int .i64 s.l3, .int .i64 s.l4, .int .i64 s.l5] 27)) (.cells #[.int .i64 d.kind, .string d.key, .string d.body, .int .i64 d.ver, .int .i64 d.cond, .string d.tag, .int .i64 d.req, .int .i64 d.low] 35)
   simpa using this
  ·unfold BC
   rw [heap_alloc_old _ _ (by simp)]
   have := heap_alloc_new ((w.alloc (.cells #[.int .i64 s.seq, .slice ad n1 cap, .slice ad' n2 cap', .int .i64 s.l1, .int .i64 s.l2, .int .i64 s.l3, .int .i64 s.l4, .int .i64 s.l5] 27)).alloc (.cells #[.int .i64 d.kind, .string d.key, .string d.body, .int .i64 d.ver, .int .i64 d.cond, .string d.tag, .int .i64 d.req, .int .i64 d.low] 35)) (.cells #[.int .i64 0, .slice none 0 0, .slice none 0 0, .int .i64 0, .int .i64 0, .int .i64 0, .int .i64 0, .int .i64 0] 27)
   unfold bcells Bk.zero
   simpa using this
  ·unfold RC
   have := heap_alloc_new (((w.alloc (.cells #[.int .i64 s.seq, .slice ad n1 cap, .slice ad' n2 cap', .int .i64 s.l1, .int .i64 s.l2, .int .i64 s.l3, .int .i64 s.l4, .int .i64 s.l5] 27)).alloc (.cells #[.int .i64 d.kind, .string d.key, .string d.body, .int .i64 d.ver, .int .i64 d.cond, .string d.tag, .int .i64 d.req, .int .i64 d.low] 35)).alloc (.cells #[.int .i64 0, .slice none 0 0, .slice none 0 0, .int .i64 0, .int .i64 0, .int .i64 0, .int .i64 0, .int .i64 0] 27)) (.cells #[.int .i64 0, .int .i64 0] 30)
   simpa using this)
 clear h hwf hdwf hlib hn1 hn2 hmay hb
 unfold dagg at *
 unfold bagg at *
 go_enter Tryz.func7, Tryz.ntmps7
 go_wp2_with fail
 generalize ((((w.alloc (.cells #[.int .i64 s.seq, .slice ad n1 cap, .slice ad' n2 cap', .int .i64 s.l1, .int .i64 s.l2, .int .i64 s.l3, .int .i64 s.l4, .int .i64 s.l5] 27)).alloc (.cells #[.int .i64 d.kind, .string d.key, .string d.body, .int .i64 d.ver, .int .i64 d.cond, .string d.tag, .int .i64 d.req, .int .i64 d.low] 35)).alloc (.cells #[.int .i64 0, .slice none 0 0, .slice none 0 0, .int .i64 0, .int .i64 0, .int .i64 0, .int .i64 0, .int .i64 0] 27)).alloc (.cells #[.int .i64 0, .int .i64 0] 30)) = W at *
 obtain ⟨hbW, h0, h1, h2, h3, hsW⟩ := HW0.out W rfl
 refine (HM.out W hbW).mono ?_
 rintro _ w1 ⟨rfl, hb1⟩
 obtain ⟨d0, d1, d2, d3, d4, d5, d6, d7⟩ := (h1.below hb1).cells
 go_wp2_with fail
 refine (HDM.out w1 (hbW.trans (hb1.mono hbW.size))).mono ?_
 rintro _ w1' ⟨rfl, hb1'⟩
 replace hb1 := hb1.trans (hb1'.mono hb1.size)
 clear d0 d1 d2 d3 d4 d5 d6 d7 hb1'
 obtain ⟨q0, q1, q2, q3, q4, q5, q6, q7⟩ := (h0.below hb1).cells
 go_wp2_with fail
 refine (HCP.out w1' (hbW.trans (hb1.mono hbW.size))).mono ?_
 rintro _ w3 ⟨a1, c1, a2, c2, rfl, ho1, ho2, hb3⟩
 have hbb := hb1.trans (hb3.mono hb1.size)
 have hst := DoW.start (Nat.le_trans hsW hb1.size) (h0.below hbb) (h1.below hbb) (h2.below hbb) (h3.below hbb) (hbW.trans (hbb.mono hbW.size)) ho1 ho2
 have HY := Lib.hid hst
 have hcc := h0.below hbb
 clear q0 q1 q2 q3 q4 q5 q6 q7 hst ho1 ho2 hb3 hb1 h0 h1 h2 h3 hbW HW0 HM HDM HCP
 obtain ⟨q0, q1, q2, q3, q4, q5, q6, q7⟩ := hcc.cells
 have f0 := hcc.free 0
 have f1 := hcc.free 1
 have f2 := hcc.free 2
 have f3 := hcc.free 3
 have f4 := hcc.free 4
 have f5 := hcc.free 5
 have f6 := hcc.free 6
 have f7 := hcc.free 7
 clear hcc hbb
 go_wp2_with fail
 unfold bstore at HY
 generalize ((((((((w3.setCell ⟨w.heap.size, 0, none⟩ (.int .i64 s.seq)).setCell ⟨w.heap.size, 1, none⟩ (.slice a1 n1 c1)).setCell ⟨w.heap.size, 2, none⟩ (.slice a2 n2 c2)).setCell ⟨w.heap.size, 3, none⟩ (.int .i64 s.l1)).setCell ⟨w.heap.size, 4, none⟩ (.int .i64 s.l2)).setCell ⟨w.heap.size, 5, none⟩ (.int .i64 s.l3)).setCell ⟨w.heap.size, 6, none⟩ (.int .i64 s.l4)).setCell ⟨w.heap.size, 7, none⟩ (.int .i64 s.l5)) = Y at *
 clear q0 q1 q2 q3 q4 q5 q6 q7 f0 f1 f2 f3 f4 f5 f6 f7
 obtain ⟨q0, q1, q2, q3, q4, q5, q6, q7⟩ := HY.out.so.bc.cells
 have f0 := HY.out.so.bc.free 0
 have hltb := HY.out.so.bc.lt
 go_wp2_with fail
 have hyq := HY.out.seq (s.seq + 1)
 clear HY q0 q1 q2 q3 q4 q5 q6 q7 f0 hltb
 have HY := Lib.hid hyq
 clear hyq
 generalize Y.setCell ⟨w.heap.size, 0, none⟩ (.int .i64 (s.seq + 1)) = Y2 at *
 have HN2 : Hid ((Bk.mk (s.seq + 1) s.l s.ms s.l1 s.l2 s.l3 s.l4 s.l5).l.length = n1 ∧ (Bk.mk (s.seq + 1) s.l s.ms s.l1 s.l2 s.l3 s.l4 s.l5).ms.length = n2) := Lib.hid HN.out
 have HEQ : Hid ((Bk.mk (s.seq + 1) s.l s.ms s.l1 s.l2 s.l3 s.l4 s.l5).l = s.l ∧ (Bk.mk (s.seq + 1) s.l s.ms s.l1 s.l2 s.l3 s.l4 s.l5).ms = s.ms) := Lib.hid ⟨rfl, rfl⟩
 generalize Bk.mk (s.seq + 1) s.l s.ms s.l1 s.l2 s.l3 s.l4 s.l5 = s2 at *
 clear HN hqb hs0 hs1
 have HN := HN2
 clear HN2
 obtain ⟨_, _, _, _, _, _, d6, _⟩ := HY.out.db.cells
 have hlw := HY.out.so.bc.low (n := homeP d.req) hh1 hh5
 rw [show 3 + (homeP d.req - 1).toNat = 3 + ((homeP d.req).toNat - 1) by omega] at hlw
 generalize s2.low (homeP d.req) = lw at *
 generalize homeP d.req = hm at *
 have hwr : IntKind.i64.wrap (hm - 1) = hm - 1 := IntWalk.i64_in _ (by omega)
 have hp0 : 0 ≤ hm - 1 := by omega
 have hp5 : hm - 1 < 5 := by omega
 go_quiet ((go_at_call 26; exact Calls.quiet_of_same ((HH.out _).mono fun _ _ ⟨a, b⟩ => ⟨a, b.symm⟩)))
 have hyn : DoW w d s2 (.slice a1 n1 c1) (.slice a2 n2 c2) (Y2.drewN nq) := HY.out.below ⟨rfl, rfl, rfl, Nat.le_refl _, fun _ _ => rfl⟩
 clear HY d6 hlw hwr hp0 hp5
 have HY := Lib.hid hyn
 clear hyn
 generalize Y2.drewN nq = Y3 at *
 obtain ⟨q0, q1, q2, q3, q4, q5, q6, q7⟩ := HY.out.so.bc.cells
 obtain ⟨_, _, _, _, _, _, d6, _⟩ := HY.out.db.cells
 go_wp2_with fail
 refine (HTO.out s2 _ _ _ HEQ.out.1 HEQ.out.2 HY.out.so.es.at HY.out.so.ms.at).mono ?_
 rintro _ y4 ⟨rfl, hb4⟩
 have HY4 := Lib.hid (HY.out.below hb4)
 clear HY q0 q1 q2 q3 q4 q5 q6 q7 d6 hb4 HTO
 have HX : Hid (RC (y4.alloc (.cells #[.int .i64 0, .int .i64 0] 30)) y4.heap.size ⟨0, 0⟩) := Lib.hid (RC.new y4 ⟨0, 0⟩)
 have HY := Lib.hid (HY4.out.below ((Below.refl _ _).alloc (Nat.le_refl _) (.cells #[.int .i64 0, .int .i64 0] 30)))
 have HXL := Lib.hid HY4.out.rr.lt
 obtain ⟨q0, q1, q2, q3, q4, q5, q6, q7⟩ := HY4.out.so.bc.cells
 have hltb := HY4.out.so.bc.lt
 clear HY4 HX HXL hltb q0 q1 q2 q3 q4 q5 q6 q7
 obtain ⟨q0, q1, q2, q3, q4, q5, q6, q7⟩ := HY.out.so.bc.cells
 go_wp2_with fail
 clear q0 q1 q2 q3 q4 q5 q6 q7
 have hS0 : BC (y4.alloc (.cells #[.int .i64 0, .int .i64 0] 30)).drew w.heap.size s2 (.slice a1 n1 c1) (.slice a2 n2 c2) := HY.out.so.bc
 refine wp_region_last (S := fun W' => BC W' w.heap.size s2 (.slice a1 n1 c1) (.slice a2 n2 c2)) (by kernel_rfl) (ops := List.toArray [_, _, _]) (o := _) rfl (by kernel_rfl) ?_
 refine tk 0 (.agg #[.int .i64 s2.seq, .slice a1 n1 c1, .slice a2 n2 c2, .int .i64 s2.l1, .int .i64 s2.l2, .int .i64 s2.l3, .int .i64 s2.l4, .int .i64 s2.l5]) rfl ?_ hS0 ?_
 ·intro w' hw
  obtain ⟨q0, q1, q2, q3, q4, q5, q6, q7⟩ := hw.cells
  go_simp
 simp only [List.getElem_toArray, List.getElem_cons_zero, Act.put, List.setIfInBounds_toArray, List.set_cons_zero, List.set_cons_succ]
 clear hS0
 refine wpAnyH_ready (rs := [1]) (by kernel_rfl) (by simp) ?_
 refine AllReadyH.cons rfl (fun K hK => ?_) AllReadyH.nil
 simp only [List.getElem_toArray, List.getElem_cons_succ, List.getElem_cons_zero]
 go_simp
 refine (failed_p 5 _).mono ?_
 rintro _ y ⟨rfl, hb1⟩
 have HYY := Lib.hid (HY.out.below ((Below.refl (y4.alloc (.cells #[.int .i64 0, .int .i64 0] 30)).heap.size (y4.alloc (.cells #[.int .i64 0, .int .i64 0] 30))).drew.trans hb1))
 clear hb1
 refine hK.out _ _ HYY.out.so.bc (fun _ => ?_)
 clear hK
 obtain ⟨hm1, hm2⟩ := HYY.out.mid
 obtain ⟨hf1, hf2, hf3⟩ := DoW.fin (by rw [HN.out.1, HN.out.2]; exact HYY.out) ⟨5, 0⟩
 rw [HN.out.1, HN.out.2] at hf1 hf2 hf3
 unfold bstore at hm1 hm2 hf1 hf2 hf3
 try unfold bagg at hf3
 try dsimp only at hm1 hm2 hf1 hf2 hf3
 have HM1 := Lib.hid hm1
 have HM2 := Lib.hid hm2
 have HF := Lib.hid (And.intro hf1 (And.intro hf2 hf3))
 clear hm1 hm2 hf1 hf2 hf3
 obtain ⟨z0, z1, z2, z3, z4, z5, z6, z7⟩ := BC.cells (s := Bk.zero) HYY.out.rz
 dsimp only [Bk.zero] at z0 z1 z2 z3 z4 z5 z6 z7
 have g0 := HYY.out.rz.free 0
 have g1 := HYY.out.rz.free 1
 have g2 := HYY.out.rz.free 2
 have g3 := HYY.out.rz.free 3
 have g4 := HYY.out.rz.free 4
 have g5 := HYY.out.rz.free 5
 have g6 := HYY.out.rz.free 6
 have g7 := HYY.out.rz.free 7
 refine wpAnyH_ready (rs := [2]) (by kernel_rfl) (by simp) ?_
 refine AllReadyH.cons rfl (fun K hK => ?_) AllReadyH.nil
 simp only [List.getElem_toArray, List.getElem_cons_succ, List.getElem_cons_zero]
 go_simp
 refine hK.out _ _ HM1.out (fun _ => ?_)
 clear hK z0 z1 z2 z3 z4 z5 z6 z7 g0 g1 g2 g3 g4 g5 g6 g7
 generalize ((((((((y.setCell ⟨w.heap.size + 1 + 1, 0, none⟩ (.int .i64 s2.seq)).setCell ⟨w.heap.size + 1 + 1, 1, none⟩ (.slice a1 n1 c1)).setCell ⟨w.heap.size + 1 + 1, 2, none⟩ (.slice a2 n2 c2)).setCell ⟨w.heap.size + 1 + 1, 3, none⟩ (.int .i64 s2.l1)).setCell ⟨w.heap.size + 1 + 1, 4, none⟩ (.int .i64 s2.l2)).setCell ⟨w.heap.size + 1 + 1, 5, none⟩ (.int .i64 s2.l3)).setCell ⟨w.heap.size + 1 + 1, 6, none⟩ (.int .i64 s2.l4)).setCell ⟨w.heap.size + 1 + 1, 7, none⟩ (.int .i64 s2.l5)) = Y9 at *
 refine wpAnyH_done (by kernel_rfl) ?_ _
 obtain ⟨x0, x1, xf0, xf1⟩ := HM2.out.facts
 try dsimp only at x0 x1
 have hlt9 := HM2.out.lt
 rw [Exit.then]
 rw [if_pos (by rfl)]
 go_simp
 go_wp2_with fail
 obtain ⟨t0, t1, t2, t3, t4, t5, t6, t7⟩ := HF.out.1.cells
 obtain ⟨r0, r1, _⟩ := HF.out.2.1.facts
 try dsimp only at t0 t1 t2 t3 t4 t5 t6 t7 r0 r1
 have HF3 := HF.out.2.2
 clear x0 x1 xf0 xf1 HF
 generalize (Y9.setCell ⟨w.heap.size + 1 + 1 + 1, 0, none⟩ (.int .i64 5)).setCell ⟨w.heap.size + 1 + 1 + 1, 1, none⟩ (.int .i64 0) = Y8 at *
 exact bodyPost_ret (v := .tuple #[.agg #[.int .i64 s2.seq, .slice a1 n1 c1, .slice a2 n2 c2, .int .i64 s2.l1, .int .i64 s2.l2, .int .i64 s2.l3, .int .i64 s2.l4, .int .i64 s2.l5], .agg #[.int .i64 5, .int .i64 0]]) (by simp [results, Tryz.results7, go_sem, t0, t1, t2, t3, t4, t5, t6, t7, r0, r1]) rfl HF3
theorem do_told (s : Bk) (u v : Value) (d : De) (w : World) (h : BAt w s u v) (hwf : s.wf) (hdwf : d.wf) (hlib : LibAt w) (hb : true = true ↔ mayD d) (hmay : bmay s = true) (hs0 : 0 ≤ s.seq) (hs1 : s.seq < 1099511627776) (hh1 : 1 ≤ homeP d.req) (hh5 : homeP d.req ≤ 5) (hlo : ¬ d.req < (Bk.mk (s.seq + 1) s.l s.ms s.l1 s.l2 s.l3 s.l4 s.l5).low (homeP d.req)) (r : Rs) (htd : toldR s.ms d.req = (r, true)) :
  Calls Tryz.prog 7 #[bagg s u v, dagg d] w (DoAns (Bk.mk (s.seq + 1) s.l s.ms s.l1 s.l2 s.l3 s.l4 s.l5, r) w) := by
 have hdl : decide (d.req < (Bk.mk (s.seq + 1) s.l s.ms s.l1 s.l2 s.l3 s.l4 s.l5).low (homeP d.req)) = false := decide_eq_false (by omega)
 clear hlo
 have HTO : Hid (∀ (t : Bk) u v W, t.l = s.l → t.ms = s.ms → EsAt W u t.l → MsAt W v t.ms → Calls Tryz.prog 16 #[.agg #[.int .i64 t.seq, u, v, .int .i64 t.l1, .int .i64 t.l2, .int .i64 t.l3, .int .i64 t.l4, .int .i64 t.l5], .int .i64 d.req] W fun e w' => e = .returned (.tuple #[.agg #[.int .i64 r.err, .int .i64 r.ver], .bool true]) ∧ Below W.heap.size W w') := Lib.hid (fun t u v W e1 e2 hW hV => by
  refine (told_p t d.req u v W ⟨hW, hV, by rw [e1]; exact h.short, by rw [e2]; exact h.shortM, by rw [e1]; exact h.shortV⟩).mono ?_
  rintro _ w' ⟨rfl, hb⟩
  rw [e2, htd]
  exact ⟨rfl, hb⟩)
 clear htd
 have hqb : (s.seq == 1099511627776) = false := by rw [beq_eq_false_iff_ne]; omega
 have HH := Lib.hid (fun W => home_p d.req hdwf.2.2.2.1.1 hdwf.2.2.2.1.2 W)
 obtain ⟨ad, cap, rfl, _⟩ := h.es.shape
 obtain ⟨ad', cap', rfl, _⟩ := h.ms.shape
 have HM := Lib.hid (fun W (hW : Below w.heap.size w W) => bmay_p s _ _ W (h.below hW) hwf)
 have HDM := Lib.hid (fun W (hW : Below w.heap.size w W) => dmay_p d true hb hdwf W (hlib.1.below hW) (hlib.2.1.below hW))
 have HCP := Lib.hid (fun W (hW : Below w.heap.size w W) => bcopied_p s _ _ W (h.below hW))
 rw [hmay] at HM
 obtain ⟨n1, hn1⟩ : ∃ n, s.l.length = n := ⟨_, rfl⟩
 obtain ⟨n2, hn2⟩ : ∃ n, s.ms.length = n := ⟨_, rfl⟩
 have HN := Lib.hid (And.intro hn1 hn2)
 unfold BAns at HCP
 rw [hn1, hn2] at HM HCP ⊢
 have HW0 : Hid (∀ W, W = ((((w.alloc (.cells #[.int .i64 s.seq, .slice ad n1 cap, .slice ad' n2 cap', .int .i64 s.l1, .int .i64 s.l2, .int .i64 s.l3, .int .i64 s.l4, .int .i64 s.l5] 27)).alloc (.cells #[.int .i64 d.kind, .string d.key, .string d.body, .int .i64 d.ver, .int .i64 d.cond, .string d.tag, .int .i64 d.req, .int .i64 d.low] 35)).alloc (.cells #[.int .i64 0, .slice none 0 0, .slice none 0 0, .int .i64 0, .int .i64 0, .int .i64 0, .int .i64 0, .int .i64 0] 27)).alloc (.cells #[.int .i64 0, .int .i64 0] 30)) → Below w.heap.size w W ∧ BC W w.heap.size s (.slice ad n1 cap) (.slice ad' n2 cap') ∧ DB W (w.heap.size + 1) d ∧ BC W (w.heap.size + 1 + 1) Bk.zero (.slice none 0 0) (.slice none 0 0) ∧ RC W (w.heap.size + 1 + 1 + 1) ⟨0, 0⟩ ∧ w.heap.size + 4 ≤ W.heap.size) := Lib.hid (by
  rintro _ rfl
  refine ⟨(((Below.refl _ w).alloc (Nat.le_refl _) _).alloc (by simp) _).alloc (by simp; omega) _ |>.alloc (by simp; omega) _, ?_, ?_, ?_, ?_, by simp⟩
  ·unfold BC
   rw [heap_alloc_old _ _ (by simp; omega), heap_alloc_old _ _ (by simp; omega), heap_alloc_old _ _ (by simp), heap_alloc_new]
   rfl
  ·unfold DB
   rw [heap_alloc_old _ _ (by simp), heap_alloc_old _ _ (by simp)]
   have := heap_alloc_new (w.alloc (.cells #[.int .i64 s.seq, .slice ad n1 cap, .slice ad' n2 cap', .int .i64 s.l1, .int .i64 s.l2, .int .i64 s.l3, .int .i64 s.l4, .int .i64 s.l5] 27)) (.cells #[.int .i64 d.kind, .string d.key, .string d.body, .int .i64 d.ver, .int .i64 d.cond, .string d.tag, .int .i64 d.req, .int .i64 d.low] 35)
   simpa using this
  ·unfold BC
   rw [heap_alloc_old _ _ (by simp)]
   have := heap_alloc_new ((w.alloc (.cells #[.int .i64 s.seq, .slice ad n1 cap, .slice ad' n2 cap', .int .i64 s.l1, .int .i64 s.l2, .int .i64 s.l3, .int .i64 s.l4, .int .i64 s.l5] 27)).alloc (.cells #[.int .i64 d.kind, .string d.key, .string d.body, .int .i64 d.ver, .int .i64 d.cond, .string d.tag, .int .i64 d.req, .int .i64 d.low] 35)) (.cells #[.int .i64 0, .slice none 0 0, .slice none 0 0, .int .i64 0, .int .i64 0, .int .i64 0, .int .i64 0, .int .i64 0] 27)
   unfold bcells Bk.zero
   simpa using this
  ·unfold RC
   have := heap_alloc_new (((w.alloc (.cells #[.int .i64 s.seq, .slice ad n1 cap, .slice ad' n2 cap', .int .i64 s.l1, .int .i64 s.l2, .int .i64 s.l3, .int .i64 s.l4, .int .i64 s.l5] 27)).alloc (.cells #[.int .i64 d.kind, .string d.key, .string d.body, .int .i64 d.ver, .int .i64 d.cond, .string d.tag, .int .i64 d.req, .int .i64 d.low] 35)).alloc (.cells #[.int .i64 0, .slice none 0 0, .slice none 0 0, .int .i64 0, .int .i64 0, .int .i64 0, .int .i64 0, .int .i64 0] 27)) (.cells #[.int .i64 0, .int .i64 0] 30)
   simpa using this)
 clear h hwf hdwf hlib hn1 hn2 hmay hb
 unfold dagg at *
 unfold bagg at *
 go_enter Tryz.func7, Tryz.ntmps7
 go_wp2_with fail
 generalize ((((w.alloc (.cells #[.int .i64 s.seq, .slice ad n1 cap, .slice ad' n2 cap', .int .i64 s.l1, .int .i64 s.l2, .int .i64 s.l3, .int .i64 s.l4, .int .i64 s.l5] 27)).alloc (.cells #[.int .i64 d.kind, .string d.key, .string d.body, .int .i64 d.ver, .int .i64 d.cond, .string d.tag, .int .i64 d.req, .int .i64 d.low] 35)).alloc (.cells #[.int .i64 0, .slice none 0 0, .slice none 0 0, .int .i64 0, .int .i64 0, .int .i64 0, .int .i64 0, .int .i64 0] 27)).alloc (.cells #[.int .i64 0, .int .i64 0] 30)) = W at *
 obtain ⟨hbW, h0, h1, h2, h3, hsW⟩ := HW0.out W rfl
 refine (HM.out W hbW).mono ?_
 rintro _ w1 ⟨rfl, hb1⟩
 obtain ⟨d0, d1, d2, d3, d4, d5, d6, d7⟩ := (h1.below hb1).cells
 go_wp2_with fail
 refine (HDM.out w1 (hbW.trans (hb1.mono hbW.size))).mono ?_
 rintro _ w1' ⟨rfl, hb1'⟩
 replace hb1 := hb1.trans (hb1'.mono hb1.size)
 clear d0 d1 d2 d3 d4 d5 d6 d7 hb1'
 obtain ⟨q0, q1, q2, q3, q4, q5, q6, q7⟩ := (h0.below hb1).cells
 go_wp2_with fail
 refine (HCP.out w1' (hbW.trans (hb1.mono hbW.size))).mono ?_
 rintro _ w3 ⟨a1, c1, a2, c2, rfl, ho1, ho2, hb3⟩
 have hbb := hb1.trans (hb3.mono hb1.size)
 have hst := DoW.start (Nat.le_trans hsW hb1.size) (h0.below hbb) (h1.below hbb) (h2.below hbb) (h3.below hbb) (hbW.trans (hbb.mono hbW.size)) ho1 ho2
 have HY := Lib.hid hst
 have hcc := h0.below hbb
 clear q0 q1 q2 q3 q4 q5 q6 q7 hst ho1 ho2 hb3 hb1 h0 h1 h2 h3 hbW HW0 HM HDM HCP
 obtain ⟨q0, q1, q2, q3, q4, q5, q6, q7⟩ := hcc.cells
 have f0 := hcc.free 0
 have f1 := hcc.free 1
 have f2 := hcc.free 2
 have f3 := hcc.free 3
 have f4 := hcc.free 4
 have f5 := hcc.free 5
 have f6 := hcc.free 6
 have f7 := hcc.free 7
 clear hcc hbb
 go_wp2_with fail
 unfold bstore at HY
 generalize ((((((((w3.setCell ⟨w.heap.size, 0, none⟩ (.int .i64 s.seq)).setCell ⟨w.heap.size, 1, none⟩ (.slice a1 n1 c1)).setCell ⟨w.heap.size, 2, none⟩ (.slice a2 n2 c2)).setCell ⟨w.heap.size, 3, none⟩ (.int .i64 s.l1)).setCell ⟨w.heap.size, 4, none⟩ (.int .i64 s.l2)).setCell ⟨w.heap.size, 5, none⟩ (.int .i64 s.l3)).setCell ⟨w.heap.size, 6, none⟩ (.int .i64 s.l4)).setCell ⟨w.heap.size, 7, none⟩ (.int .i64 s.l5)) = Y at *
 clear q0 q1 q2 q3 q4 q5 q6 q7 f0 f1 f2 f3 f4 f5 f6 f7
 obtain ⟨q0, q1, q2, q3, q4, q5, q6, q7⟩ := HY.out.so.bc.cells
 have f0 := HY.out.so.bc.free 0
 have hltb := HY.out.so.bc.lt
 go_wp2_with fail
 have hyq := HY.out.seq (s.seq + 1)
 clear HY q0 q1 q2 q3 q4 q5 q6 q7 f0 hltb
 have HY := Lib.hid hyq
 clear hyq
 generalize Y.setCell ⟨w.heap.size, 0, none⟩ (.int .i64 (s.seq + 1)) = Y2 at *
 have HN2 : Hid ((Bk.mk (s.seq + 1) s.l s.ms s.l1 s.l2 s.l3 s.l4 s.l5).l.length = n1 ∧ (Bk.mk (s.seq + 1) s.l s.ms s.l1 s.l2 s.l3 s.l4 s.l5).ms.length = n2) := Lib.hid HN.out
 have HEQ : Hid ((Bk.mk (s.seq + 1) s.l s.ms s.l1 s.l2 s.l3 s.l4 s.l5).l = s.l ∧ (Bk.mk (s.seq + 1) s.l s.ms s.l1 s.l2 s.l3 s.l4 s.l5).ms = s.ms) := Lib.hid ⟨rfl, rfl⟩
 generalize Bk.mk (s.seq + 1) s.l s.ms s.l1 s.l2 s.l3 s.l4 s.l5 = s2 at *
 clear HN hqb hs0 hs1
 have HN := HN2
 clear HN2
 obtain ⟨_, _, _, _, _, _, d6, _⟩ := HY.out.db.cells
 have hlw := HY.out.so.bc.low (n := homeP d.req) hh1 hh5
 rw [show 3 + (homeP d.req - 1).toNat = 3 + ((homeP d.req).toNat - 1) by omega] at hlw
 generalize s2.low (homeP d.req) = lw at *
 generalize homeP d.req = hm at *
 have hwr : IntKind.i64.wrap (hm - 1) = hm - 1 := IntWalk.i64_in _ (by omega)
 have hp0 : 0 ≤ hm - 1 := by omega
 have hp5 : hm - 1 < 5 := by omega
 go_quiet ((go_at_call 26; exact Calls.quiet_of_same ((HH.out _).mono fun _ _ ⟨a, b⟩ => ⟨a, b.symm⟩)))
 have hyn : DoW w d s2 (.slice a1 n1 c1) (.slice a2 n2 c2) (Y2.drewN nq) := HY.out.below ⟨rfl, rfl, rfl, Nat.le_refl _, fun _ _ => rfl⟩
 clear HY d6 hlw hwr hp0 hp5
 have HY := Lib.hid hyn
 clear hyn
 generalize Y2.drewN nq = Y3 at *
 obtain ⟨q0, q1, q2, q3, q4, q5, q6, q7⟩ := HY.out.so.bc.cells
 obtain ⟨_, _, _, _, _, _, d6, _⟩ := HY.out.db.cells
 go_wp2_with fail
 refine (HTO.out s2 _ _ _ HEQ.out.1 HEQ.out.2 HY.out.so.es.at HY.out.so.ms.at).mono ?_
 rintro _ y4 ⟨rfl, hb4⟩
 have HY4 := Lib.hid (HY.out.below hb4)
 clear HY q0 q1 q2 q3 q4 q5 q6 q7 d6 hb4 HTO
 have HX : Hid (RC (y4.alloc (.cells #[.int .i64 r.err, .int .i64 r.ver] 30)) y4.heap.size r) := Lib.hid (RC.new y4 r)
 have HY := Lib.hid (HY4.out.below ((Below.refl _ _).alloc (Nat.le_refl _) (.cells #[.int .i64 r.err, .int .i64 r.ver] 30)))
 have HXL := Lib.hid HY4.out.rr.lt
 obtain ⟨q0, q1, q2, q3, q4, q5, q6, q7⟩ := HY4.out.so.bc.cells
 have hltb := HY4.out.so.bc.lt
 go_wp2_with fail
 clear q0 q1 q2 q3 q4 q5 q6 q7 hltb HY4
 generalize y4.alloc (.cells #[.int .i64 r.err, .int .i64 r.ver] 30) = Y5 at *
 generalize y4.heap.size = X at *
 have hS0 : BC Y5.drew w.heap.size s2 (.slice a1 n1 c1) (.slice a2 n2 c2) ∧ RC Y5.drew X r := ⟨HY.out.so.bc, HX.out⟩
 refine wp_region_held_drew (S := fun W' => BC W' w.heap.size s2 (.slice a1 n1 c1) (.slice a2 n2 c2) ∧ RC W' X r) (by kernel_rfl) hS0 (fun _ => ?_)
 refine tk 0 (.agg #[.int .i64 s2.seq, .slice a1 n1 c1, .slice a2 n2 c2, .int .i64 s2.l1, .int .i64 s2.l2, .int .i64 s2.l3, .int .i64 s2.l4, .int .i64 s2.l5]) rfl ?_ hS0 ?_
 ·intro w' hw
  obtain ⟨q0, q1, q2, q3, q4, q5, q6, q7⟩ := hw.1.cells
  go_simp
 refine tk 1 (.agg #[.int .i64 r.err, .int .i64 r.ver]) rfl ?_ hS0 ?_
 ·intro w' hw
  obtain ⟨q0, q1, _, _⟩ := hw.2.facts
  go_simp
 simp only [List.getElem_toArray, List.getElem_cons_succ, List.getElem_cons_zero, Act.put, List.setIfInBounds_toArray, List.set_cons_zero, List.set_cons_succ]
 clear hS0
 have HDR := Lib.hid (HY.out.below (Below.refl Y5.heap.size Y5).drew)
 have HXD : Hid (RC Y5.drew X r) := Lib.hid HX.out
 generalize Y5.drew = Y6 at *
 obtain ⟨hm1, hm2⟩ := HDR.out.mid
 obtain ⟨hf1, hf2, hf3⟩ := DoW.fin (by rw [HN.out.1, HN.out.2]; exact HDR.out) r
 rw [HN.out.1, HN.out.2] at hf1 hf2 hf3
 unfold bstore at hm1 hm2 hf1 hf2 hf3
 try unfold bagg at hf3
 try dsimp only at hm1 hm2 hf1 hf2 hf3
 have hmx : RC (bstore Y6 (w.heap.size + 1 + 1) s2 (.slice a1 n1 c1) (.slice a2 n2 c2)) X r := (bstore_heap _ _ _ _ _ (by have := HXL.out; omega)).trans HXD.out
 unfold bstore at hmx
 have HMX := Lib.hid hmx
 have HM1 := Lib.hid hm1
 clear hmx
 have HM2 := Lib.hid hm2
 have HF := Lib.hid (And.intro hf1 (And.intro hf2 hf3))
 clear hm1 hm2 hf1 hf2 hf3
 obtain ⟨z0, z1, z2, z3, z4, z5, z6, z7⟩ := BC.cells (s := Bk.zero) HDR.out.rz
 dsimp only [Bk.zero] at z0 z1 z2 z3 z4 z5 z6 z7
 have g0 := HDR.out.rz.free 0
 have g1 := HDR.out.rz.free 1
 have g2 := HDR.out.rz.free 2
 have g3 := HDR.out.rz.free 3
 have g4 := HDR.out.rz.free 4
 have g5 := HDR.out.rz.free 5
 have g6 := HDR.out.rz.free 6
 have g7 := HDR.out.rz.free 7
 refine wpAnyH_ready (rs := [2]) (by kernel_rfl) (by simp) ?_
 refine AllReadyH.cons rfl (fun K hK => ?_) AllReadyH.nil
 simp only [List.getElem_toArray, List.getElem_cons_succ, List.getElem_cons_zero]
 go_simp
 refine hK.out _ _ ⟨HM1.out, HMX.out⟩ (fun _ => ?_)
 clear hK z0 z1 z2 z3 z4 z5 z6 z7 g0 g1 g2 g3 g4 g5 g6 g7
 generalize ((((((((Y6.setCell ⟨w.heap.size + 1 + 1, 0, none⟩ (.int .i64 s2.seq)).setCell ⟨w.heap.size + 1 + 1, 1, none⟩ (.slice a1 n1 c1)).setCell ⟨w.heap.size + 1 + 1, 2, none⟩ (.slice a2 n2 c2)).setCell ⟨w.heap.size + 1 + 1, 3, none⟩ (.int .i64 s2.l1)).setCell ⟨w.heap.size + 1 + 1, 4, none⟩ (.int .i64 s2.l2)).setCell ⟨w.heap.size + 1 + 1, 5, none⟩ (.int .i64 s2.l3)).setCell ⟨w.heap.size + 1 + 1, 6, none⟩ (.int .i64 s2.l4)).setCell ⟨w.heap.size + 1 + 1, 7, none⟩ (.int .i64 s2.l5)) = Y9 at *
 have hms : BC ((Y9.setCell ⟨w.heap.size + 1 + 1 + 1, 0, none⟩ (.int .i64 r.err)).setCell ⟨w.heap.size + 1 + 1 + 1, 1, none⟩ (.int .i64 r.ver)) w.heap.size s2 (.slice a1 n1 c1) (.slice a2 n2 c2) ∧ RC ((Y9.setCell ⟨w.heap.size + 1 + 1 + 1, 0, none⟩ (.int .i64 r.err)).setCell ⟨w.heap.size + 1 + 1 + 1, 1, none⟩ (.int .i64 r.ver)) X r := by
  have hb3 : w.heap.size ≠ w.heap.size + 1 + 1 + 1 := by omega
  have hx3 : X ≠ w.heap.size + 1 + 1 + 1 := by have := HXL.out; omega
  refine ⟨?_, ?_⟩
  ·unfold BC
   rw [Below.heap_setCell _ _ _ _ hb3, Below.heap_setCell _ _ _ _ hb3]
   exact HM1.out
  ·unfold RC
   rw [Below.heap_setCell _ _ _ _ hx3, Below.heap_setCell _ _ _ _ hx3]
   exact HMX.out
 have HMS := Lib.hid hms
 clear hms
 obtain ⟨x0, x1, xf0, xf1⟩ := HM2.out.facts
 try dsimp only at x0 x1
 have hlt9 := HM2.out.lt
 refine wpAnyH_ready (rs := [3]) (by kernel_rfl) (by simp) ?_
 refine AllReadyH.cons rfl (fun K hK => ?_) AllReadyH.nil
 simp only [List.getElem_toArray, List.getElem_cons_succ, List.getElem_cons_zero]
 go_simp
 refine hK.out _ _ HMS.out (fun _ => ?_)
 clear hK
 refine wpAnyH_done (by kernel_rfl) ?_ _
 go_wp2_with fail
 obtain ⟨t0, t1, t2, t3, t4, t5, t6, t7⟩ := HF.out.1.cells
 obtain ⟨r0, r1, _⟩ := HF.out.2.1.facts
 try dsimp only at t0 t1 t2 t3 t4 t5 t6 t7 r0 r1
 have HF3 := HF.out.2.2
 clear x0 x1 xf0 xf1 HF
 generalize (Y9.setCell ⟨w.heap.size + 1 + 1 + 1, 0, none⟩ (.int .i64 r.err)).setCell ⟨w.heap.size + 1 + 1 + 1, 1, none⟩ (.int .i64 r.ver) = Y8 at *
 exact bodyPost_ret (v := .tuple #[.agg #[.int .i64 s2.seq, .slice a1 n1 c1, .slice a2 n2 c2, .int .i64 s2.l1, .int .i64 s2.l2, .int .i64 s2.l3, .int .i64 s2.l4, .int .i64 s2.l5], .agg #[.int .i64 r.err, .int .i64 r.ver]]) (by simp [results, Tryz.results7, go_sem, t0, t1, t2, t3, t4, t5, t6, t7, r0, r1]) rfl HF3
theorem riseE_sort : ∀ (q : Int) (b : ByteArray) (l : List En), riseE q b l = true → (∀ (j : Nat) (y : En), l[j]? = some y → klt b y.key = true) ∧ SortE l
 | _, _, [], _ => ⟨fun _ _ h => (by simp at h), fun _ _ _ _ _ h => (by simp at h)⟩
 | q, b, e :: r, h => by
  simp only [riseE, Bool.and_eq_true] at h
  obtain ⟨⟨⟨_, h2⟩, _⟩, h4⟩ := h
  have hbe : klt b e.key = true := by
   rw [kle_eq] at h2
   simpa using h2
  obtain ⟨i1, i2⟩ := riseE_sort q e.key r h4
  refine ⟨fun j y hy => ?_, fun i j x y hij hx hy => ?_⟩
  ·match j, hy with
   | 0, hy => simp at hy; rw [← hy]; exact hbe
   | j + 1, hy => exact klt_trans hbe (i1 j y (by simpa using hy))
  ·match i, j, hij, hx, hy with
   | 0, j + 1, _, hx, hy => simp at hx; rw [← hx]; exact i1 j y (by simpa using hy)
   | i + 1, j + 1, hij, hx, hy => exact i2 i j x y (by omega) (by simpa using hx) (by simpa using hy)
theorem riseM_sort : ∀ (s : Bk) (b : Int) (l : List Me), riseM s b l = true → (∀ (j : Nat) (y : Me), l[j]? = some y → b < y.req) ∧ SortM l
 | _, _, [], _ => ⟨fun _ _ h => (by simp at h), fun _ _ _ _ _ h => (by simp at h)⟩
 | s, b, e :: r, h => by
  simp only [riseM, Bool.and_eq_true, decide_eq_true_eq] at h
  obtain ⟨⟨h1, _⟩, h4⟩ := h
  obtain ⟨i1, i2⟩ := riseM_sort s e.req r h4
  refine ⟨fun j y hy => ?_, fun i j x y hij hx hy => ?_⟩
  ·match j, hy with
   | 0, hy => simp at hy; rw [← hy]; exact h1
   | j + 1, hy => have := i1 j y (by simpa using hy); omega
  ·match i, j, hij, hx, hy with
   | 0, j + 1, _, hx, hy => simp at hx; rw [← hx]; exact i1 j y (by simpa using hy)
   | i + 1, j + 1, hij, hx, hy => exact i2 i j x y (by omega) (by simpa using hx) (by simpa using hy)
theorem riseE_may : ∀ (q : Int) (b : ByteArray) (l : List En), riseE q b l = true → ∀ e ∈ l, mayE e.key e.vs = true ∧ lastV e.vs ≤ q
 | _, _, [], _, _, h => by cases h
 | q, b, e :: r, h, x, hx => by
  simp only [riseE, Bool.and_eq_true, decide_eq_true_eq] at h
  obtain ⟨⟨⟨h1, _⟩, h3⟩, h4⟩ := h
  rcases List.mem_cons.1 hx with rfl | hx
  ·exact ⟨h1, h3⟩
  ·exact riseE_may q e.key r h4 x hx
theorem riseV_pure : ∀ (b : Int) (l : List Ve), riseV b l = true → ∀ v ∈ l, pureV v = true ∧ 0 + b < v.ver ∧ v.ver ≤ 1099511627776
 | _, [], _, _, h => by cases h
 | b, v :: r, h, x, hx => by
  simp only [riseV, Bool.and_eq_true, decide_eq_true_eq] at h
  obtain ⟨⟨⟨h1, h2⟩, h3⟩, h4⟩ := h
  rcases List.mem_cons.1 hx with rfl | hx
  ·exact ⟨h3, by omega, h2⟩
  ·obtain ⟨a, c, e⟩ := riseV_pure v.ver r h4 x hx
   exact ⟨a, by omega, e⟩
structure BMay (s : Bk) : Prop where
 s0 : 0 ≤ s.seq
 s1 : s.seq ≤ 1099511627776
 e40 : s.l.length ≤ 40
 m100 : s.ms.length ≤ 100
 se : SortE s.l
 sm : SortM s.ms
 ent : ∀ e ∈ s.l, mayE e.key e.vs = true
 body : ∀ e ∈ s.l, ∀ x ∈ e.vs, x.body.size ≤ 1000000
theorem bmay_facts {s : Bk} (h : bmay s = true) : BMay s := by
 unfold bmay mayEs mayMs at h
 simp only [Bool.and_eq_true, decide_eq_true_eq] at h
 obtain ⟨⟨⟨⟨h0, h1⟩, h2, h3⟩, h4, h5⟩, _⟩ := h
 refine ⟨h0, h1, h2, h4, (riseE_sort _ _ _ h3).2, (riseM_sort _ _ _ h5).2, fun e he => (riseE_may _ _ _ h3 e he).1, fun e he x hx => ?_⟩
 have hm := (riseE_may _ _ _ h3 e he).1
 unfold mayE at hm
 simp only [Bool.and_eq_true] at hm
 have hp := (riseV_pure _ _ hm.2 x hx).1
 unfold pureV at hp
 split at hp
 ·have := of_decide_eq_true hp; omega
 ·have := of_decide_eq_true hp; omega
theorem mayD_home {d : De} (h : mayD d) : 1 ≤ homeP d.req ∧ homeP d.req ≤ 5 := by
 rcases homeP_range d.req with h0 | h0
 ·exact absurd h0 h.2.1
 ·exact h0
theorem told_some {ms : List Me} {r : Int} {x : Rs} (h : toldB ms r = some x) : toldR ms r = (x, true) := by unfold toldR; rw [h]
theorem told_none {ms : List Me} {r : Int} (h : toldB ms r = none) : toldR ms r = (⟨0, 0⟩, false) := by unfold toldR; rw [h]
theorem do_p (s : Bk) (u v : Value) (d : De) (b : Bool) (w : World) (h : BAt w s u v) (hwf : s.wf) (hdwf : d.wf) (hlib : LibAt w) (hb : b = true ↔ mayD d) (hP : d.kind ≠ 1 → d.kind ≠ 2 → PurgeOK) (hF : homeP d.low = homeP d.req → ForgetOK) :
  Calls Tryz.prog 7 #[bagg s u v, dagg d] w (DoAns (doB s d b) w) := by
 unfold doB
 cases hm : bmay s with
 | false =>
  rw [if_pos (by simp)]
  exact do_bad1 s u v d w h hwf hdwf hlib b hb hm
 | true =>
  cases b with
  | false =>
   rw [if_pos (by simp)]
   exact do_bad2 s u v d w h hwf hdwf hlib hb hm
  | true =>
   rw [if_neg (by simp)]
   have hM := bmay_facts hm
   have hd := hb.1 rfl
   obtain ⟨h1, h5⟩ := mayD_home hd
   by_cases hq : s.seq = 1099511627776
   ·rw [if_pos hq]
    exact do_full s u v d w h hwf hdwf hlib hb hm hq
   ·rw [if_neg hq]
    have hs1 : s.seq < 1099511627776 := by have := hM.s1; omega
    by_cases hl : d.req < s.low (homeP d.req)
    ·rw [if_pos hl]
     exact do_old s u v d w h hwf hdwf hlib hb hm hM.s0 hs1 h1 h5 hl
    ·rw [if_neg hl]
     cases ht : toldB s.ms d.req with
     | some r => exact do_told s u v d w h hwf hdwf hlib hb hm hM.s0 hs1 h1 h5 hl r (told_some ht)
     | none =>
      dsimp only
      by_cases hf : s.ms.length = 100
      ·rw [if_pos hf]
       exact do_mfull s u v d w h hwf hdwf hlib hb hm hM.s0 hs1 h1 h5 hl (told_none ht) hf
      ·rw [if_neg hf]
       exact do_yes s u v d w h hwf hdwf hlib hb hm hM.s0 hs1 h1 h5 hl (told_none ht) hf hM.se hM.sm hM.body hM.m100 hP hF
end Go.Proofs.YtlpgphiccjkenaaGreatDoor
