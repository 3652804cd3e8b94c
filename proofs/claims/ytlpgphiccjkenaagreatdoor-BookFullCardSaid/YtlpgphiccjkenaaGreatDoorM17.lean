/-
 Contracts of the program, and what they rest on.
-/
import Derived.Test.YtlpgphiccjkenaaGreatDoorM12
import Derived.Test.YtlpgphiccjkenaaGreatDoorM08
import Derived.Test.YtlpgphiccjkenaaGreatDoorM09
set_option maxRecDepth 100000
set_option maxHeartbeats 16000000
namespace Go.Proofs.YtlpgphiccjkenaaGreatDoor
open Go.RowKit
theorem ix5_0 (a b c d e : Int) (w : World) : (Instr.index 25 (.agg #[.int .i64 a, .int .i64 b, .int .i64 c, .int .i64 d, .int .i64 e]) (.int .i64 0)).run Tryz.prog w = .ok (.int .i64 a) w := by
 simp [Instr.index, run_underlying Tryz.underlying25, asIntOf, go_sem, Tryz.sizeOf2]
theorem ix5_1 (a b c d e : Int) (w : World) : (Instr.index 25 (.agg #[.int .i64 a, .int .i64 b, .int .i64 c, .int .i64 d, .int .i64 e]) (.int .i64 1)).run Tryz.prog w = .ok (.int .i64 b) w := by
 simp [Instr.index, run_underlying Tryz.underlying25, asIntOf, go_sem, Tryz.sizeOf2]
theorem ix5_2 (a b c d e : Int) (w : World) : (Instr.index 25 (.agg #[.int .i64 a, .int .i64 b, .int .i64 c, .int .i64 d, .int .i64 e]) (.int .i64 2)).run Tryz.prog w = .ok (.int .i64 c) w := by
 simp [Instr.index, run_underlying Tryz.underlying25, asIntOf, go_sem, Tryz.sizeOf2]
theorem ix5_3 (a b c d e : Int) (w : World) : (Instr.index 25 (.agg #[.int .i64 a, .int .i64 b, .int .i64 c, .int .i64 d, .int .i64 e]) (.int .i64 3)).run Tryz.prog w = .ok (.int .i64 d) w := by
 simp [Instr.index, run_underlying Tryz.underlying25, asIntOf, go_sem, Tryz.sizeOf2]
theorem ix5_4 (a b c d e : Int) (w : World) : (Instr.index 25 (.agg #[.int .i64 a, .int .i64 b, .int .i64 c, .int .i64 d, .int .i64 e]) (.int .i64 4)).run Tryz.prog w = .ok (.int .i64 e) w := by
 simp [Instr.index, run_underlying Tryz.underlying25, asIntOf, go_sem, Tryz.sizeOf2]
theorem mayLows_p (s : Bk) (hwf : s.wf) (w : World) :
  Calls Tryz.prog 38 #[.agg #[.int .i64 s.l1, .int .i64 s.l2, .int .i64 s.l3, .int .i64 s.l4, .int .i64 s.l5]] w fun e w' => e = .returned (.bool (mayLs s)) ∧ Below w.heap.size w w' := by
 obtain ⟨R, hR⟩ : ∃ R, mayLs s = R := ⟨_, rfl⟩
 rw [hR]
 unfold mayLs at hR
 have H1 := Lib.hid (fun W => home_p s.l1 hwf.l1.1 hwf.l1.2 W)
 have H2 := Lib.hid (fun W => home_p s.l2 hwf.l2.1 hwf.l2.2 W)
 have H3 := Lib.hid (fun W => home_p s.l3 hwf.l3.1 hwf.l3.2 W)
 have H4 := Lib.hid (fun W => home_p s.l4 hwf.l4.1 hwf.l4.2 W)
 have H5 := Lib.hid (fun W => home_p s.l5 hwf.l5.1 hwf.l5.2 W)
 generalize s.l1 = a1 at *
 generalize s.l2 = a2 at *
 generalize s.l3 = a3 at *
 generalize s.l4 = a4 at *
 generalize s.l5 = a5 at *
 have qi0 := ix5_0
 have qi1 := ix5_1
 have qi2 := ix5_2
 have qi3 := ix5_3
 have qi4 := ix5_4
 have HR := Lib.hid hR
 have HB : Hid (Below w.heap.size w (w.alloc (.cells #[.int .i64 a1, .int .i64 a2, .int .i64 a3, .int .i64 a4, .int .i64 a5] 25))) := Lib.hid ((Below.refl _ w).alloc (Nat.le_refl _) _)
 clear hR hwf
 go_enter Tryz.func38, Tryz.ntmps38
 go_wp2_with fail
 go_loopg [3, 4, 6] 5 (fun gg _ _ s6 wr => ∃ k : Nat, k ≤ 5 ∧ 5 - k ≤ gg ∧ s6 = .int .i64 k ∧ Hid (Below w.heap.size w wr) ∧ Hid (0 < k → mayLow a1 1 = true) ∧ Hid (1 < k → mayLow a2 2 = true) ∧ Hid (2 < k → mayLow a3 3 = true) ∧ Hid (3 < k → mayLow a4 4 = true) ∧ Hid (4 < k → mayLow a5 5 = true))
 case atStart => exact ⟨0, by omega, by omega, rfl, HB, Lib.hid (by omega), Lib.hid (by omega), Lib.hid (by omega), Lib.hid (by omega), Lib.hid (by omega)⟩
 case round =>
  obtain ⟨k, hk, hg, rfl, BW, A1, A2, A3, A4, A5⟩ := hrel
  obtain rfl | rfl | rfl | rfl | rfl | rfl : k = 0 ∨ k = 1 ∨ k = 2 ∨ k = 3 ∨ k = 4 ∨ k = 5 := by omega
  case inr.inr.inr.inr.inr =>
   obtain rfl : R = true := by
    rw [← HR.out, A1.out (by omega), A2.out (by omega), A3.out (by omega), A4.out (by omega), A5.out (by omega)]; rfl
   go_wp2_with fail
   go_ret
   exact ⟨rfl, BW.out⟩
  case inl =>
   by_cases h0 : a1 = 0
   ·have hm : mayLow a1 1 = true := by unfold mayLow; simp [h0]
    have hb0 : (a1 != 0) = false := by simp [h0]
    go_wp2_with fail
    go_roundg 4
    case measure => omega
    case rel => exact ⟨1, by omega, by omega, by go_num, BW, Lib.hid (fun _ => hm), Lib.hid (by omega), Lib.hid (by omega), Lib.hid (by omega), Lib.hid (by omega)⟩
   have hb0 : (a1 != 0) = true := by simpa using h0
   go_wp2_with fail
   refine (H1.out _).mono ?_
   rintro _ _ ⟨rfl, rfl⟩
   by_cases h1 : homeP a1 = 1
   ·have hm : mayLow a1 1 = true := by unfold mayLow; simp [h1]
    have hb1 : (homeP a1 != 1) = false := by simp [h1]
    go_wp2_with fail
    go_roundg 4
    case measure => omega
    case rel => exact ⟨1, by omega, by omega, by go_num, BW, Lib.hid (fun _ => hm), Lib.hid (by omega), Lib.hid (by omega), Lib.hid (by omega), Lib.hid (by omega)⟩
   ·obtain rfl : R = false := by
     rw [← HR.out, show mayLow a1 1 = false by unfold mayLow; simp [h0, h1]]; simp
    have hb1 : (homeP a1 != 1) = true := by simpa using h1
    go_wp2_with fail
    go_ret
    exact ⟨rfl, BW.out⟩
  case inr.inl =>
   by_cases h0 : a2 = 0
   ·have hm : mayLow a2 2 = true := by unfold mayLow; simp [h0]
    have hb0 : (a2 != 0) = false := by simp [h0]
    go_wp2_with fail
    go_roundg 3
    case measure => omega
    case rel => exact ⟨2, by omega, by omega, by go_num, BW, Lib.hid (fun _ => A1.out (by omega)), Lib.hid (fun _ => hm), Lib.hid (by omega), Lib.hid (by omega), Lib.hid (by omega)⟩
   have hb0 : (a2 != 0) = true := by simpa using h0
   go_wp2_with fail
   refine (H2.out _).mono ?_
   rintro _ _ ⟨rfl, rfl⟩
   by_cases h1 : homeP a2 = 2
   ·have hm : mayLow a2 2 = true := by unfold mayLow; simp [h1]
    have hb1 : (homeP a2 != 2) = false := by simp [h1]
    go_wp2_with fail
    go_roundg 3
    case measure => omega
    case rel => exact ⟨2, by omega, by omega, by go_num, BW, Lib.hid (fun _ => A1.out (by omega)), Lib.hid (fun _ => hm), Lib.hid (by omega), Lib.hid (by omega), Lib.hid (by omega)⟩
   ·obtain rfl : R = false := by
     rw [← HR.out, show mayLow a2 2 = false by unfold mayLow; simp [h0, h1]]; simp
    have hb1 : (homeP a2 != 2) = true := by simpa using h1
    go_wp2_with fail
    go_ret
    exact ⟨rfl, BW.out⟩
  case inr.inr.inl =>
   by_cases h0 : a3 = 0
   ·have hm : mayLow a3 3 = true := by unfold mayLow; simp [h0]
    have hb0 : (a3 != 0) = false := by simp [h0]
    go_wp2_with fail
    go_roundg 2
    case measure => omega
    case rel => exact ⟨3, by omega, by omega, by go_num, BW, Lib.hid (fun _ => A1.out (by omega)), Lib.hid (fun _ => A2.out (by omega)), Lib.hid (fun _ => hm), Lib.hid (by omega), Lib.hid (by omega)⟩
   have hb0 : (a3 != 0) = true := by simpa using h0
   go_wp2_with fail
   refine (H3.out _).mono ?_
   rintro _ _ ⟨rfl, rfl⟩
   by_cases h1 : homeP a3 = 3
   ·have hm : mayLow a3 3 = true := by unfold mayLow; simp [h1]
    have hb1 : (homeP a3 != 3) = false := by simp [h1]
    go_wp2_with fail
    go_roundg 2
    case measure => omega
    case rel => exact ⟨3, by omega, by omega, by go_num, BW, Lib.hid (fun _ => A1.out (by omega)), Lib.hid (fun _ => A2.out (by omega)), Lib.hid (fun _ => hm), Lib.hid (by omega), Lib.hid (by omega)⟩
   ·obtain rfl : R = false := by
     rw [← HR.out, show mayLow a3 3 = false by unfold mayLow; simp [h0, h1]]; simp
    have hb1 : (homeP a3 != 3) = true := by simpa using h1
    go_wp2_with fail
    go_ret
    exact ⟨rfl, BW.out⟩
  case inr.inr.inr.inl =>
   by_cases h0 : a4 = 0
   ·have hm : mayLow a4 4 = true := by unfold mayLow; simp [h0]
    have hb0 : (a4 != 0) = false := by simp [h0]
    go_wp2_with fail
    go_roundg 1
    case measure => omega
    case rel => exact ⟨4, by omega, by omega, by go_num, BW, Lib.hid (fun _ => A1.out (by omega)), Lib.hid (fun _ => A2.out (by omega)), Lib.hid (fun _ => A3.out (by omega)), Lib.hid (fun _ => hm), Lib.hid (by omega)⟩
   have hb0 : (a4 != 0) = true := by simpa using h0
   go_wp2_with fail
   refine (H4.out _).mono ?_
   rintro _ _ ⟨rfl, rfl⟩
   by_cases h1 : homeP a4 = 4
   ·have hm : mayLow a4 4 = true := by unfold mayLow; simp [h1]
    have hb1 : (homeP a4 != 4) = false := by simp [h1]
    go_wp2_with fail
    go_roundg 1
    case measure => omega
    case rel => exact ⟨4, by omega, by omega, by go_num, BW, Lib.hid (fun _ => A1.out (by omega)), Lib.hid (fun _ => A2.out (by omega)), Lib.hid (fun _ => A3.out (by omega)), Lib.hid (fun _ => hm), Lib.hid (by omega)⟩
   ·obtain rfl : R = false := by
     rw [← HR.out, show mayLow a4 4 = false by unfold mayLow; simp [h0, h1]]; simp
    have hb1 : (homeP a4 != 4) = true := by simpa using h1
    go_wp2_with fail
    go_ret
    exact ⟨rfl, BW.out⟩
  case inr.inr.inr.inr.inl =>
   by_cases h0 : a5 = 0
   ·have hm : mayLow a5 5 = true := by unfold mayLow; simp [h0]
    have hb0 : (a5 != 0) = false := by simp [h0]
    go_wp2_with fail
    go_roundg 0
    case measure => omega
    case rel => exact ⟨5, by omega, by omega, by go_num, BW, Lib.hid (fun _ => A1.out (by omega)), Lib.hid (fun _ => A2.out (by omega)), Lib.hid (fun _ => A3.out (by omega)), Lib.hid (fun _ => A4.out (by omega)), Lib.hid (fun _ => hm)⟩
   have hb0 : (a5 != 0) = true := by simpa using h0
   go_wp2_with fail
   refine (H5.out _).mono ?_
   rintro _ _ ⟨rfl, rfl⟩
   by_cases h1 : homeP a5 = 5
   ·have hm : mayLow a5 5 = true := by unfold mayLow; simp [h1]
    have hb1 : (homeP a5 != 5) = false := by simp [h1]
    go_wp2_with fail
    go_roundg 0
    case measure => omega
    case rel => exact ⟨5, by omega, by omega, by go_num, BW, Lib.hid (fun _ => A1.out (by omega)), Lib.hid (fun _ => A2.out (by omega)), Lib.hid (fun _ => A3.out (by omega)), Lib.hid (fun _ => A4.out (by omega)), Lib.hid (fun _ => hm)⟩
   ·obtain rfl : R = false := by
     rw [← HR.out, show mayLow a5 5 = false by unfold mayLow; simp [h0, h1]]; simp
    have hb1 : (homeP a5 != 5) = true := by simpa using h1
    go_wp2_with fail
    go_ret
    exact ⟨rfl, BW.out⟩
theorem BC.low {w : World} {b : Nat} {s : Bk} {u v : Value} (h : BC w b s u v) {n : Int} (h0 : 1 ≤ n) (h5 : n ≤ 5) : w.cell? ⟨b, 3 + (n - 1).toNat, none⟩ = some (.int .i64 (s.low n)) := by
 obtain ⟨_, _, _, c3, c4, c5, c6, c7⟩ := h.cells
 obtain rfl | rfl | rfl | rfl | rfl : n = 1 ∨ n = 2 ∨ n = 3 ∨ n = 4 ∨ n = 5 := by omega
 ·exact c3
 ·exact c4
 ·exact c5
 ·exact c6
 ·exact c7
theorem homeP_range (r : Int) : homeP r = 0 ∨ (1 ≤ homeP r ∧ homeP r ≤ 5) := by
 unfold homeP
 split
 ·right; omega
 ·left; rfl
theorem mayMemo_p (s : Bk) (m : Me) (hm : -9223372036854775808 ≤ m.req ∧ m.req ≤ 9223372036854775807) (ad : Option Addr) (n c : Nat) (ad' : Option Addr) (n' c' : Nat) (w : World) :
  Calls Tryz.prog 75 #[bagg s (.slice ad n c) (.slice ad' n' c'), .agg #[.int .i64 m.req, .int .i64 m.res.err, .int .i64 m.res.ver]] w fun e w' => e = .returned (.bool (mayMe s m)) ∧ Below w.heap.size w w' := by
 obtain ⟨R, hR⟩ : ∃ R, mayMe s m = R := ⟨_, rfl⟩
 rw [hR]
 unfold mayMe at hR
 have HH := Lib.hid (fun W => home_p m.req hm.1 hm.2 W)
 have h1 : BC ((w.alloc (.cells (bcells s (.slice ad n c) (.slice ad' n' c')) 27)).alloc (.cells #[.int .i64 m.req, .int .i64 m.res.err, .int .i64 m.res.ver] 76)) w.heap.size s (.slice ad n c) (.slice ad' n' c') := (BC.new w s _ _).below ((Below.refl _ _).alloc (by simp) _)
 have HB : Hid (Below w.heap.size w ((w.alloc (.cells (bcells s (.slice ad n c) (.slice ad' n' c')) 27)).alloc (.cells #[.int .i64 m.req, .int .i64 m.res.err, .int .i64 m.res.ver] 76))) := Lib.hid (((Below.refl _ w).alloc (Nat.le_refl _) _).alloc (by simp) _)
 have hl := fun h0 h5 => h1.low (n := homeP m.req) h0 h5
 have hm0 : ((w.alloc (.cells (bcells s (.slice ad n c) (.slice ad' n' c')) 27)).alloc (.cells #[.int .i64 m.req, .int .i64 m.res.err, .int .i64 m.res.ver] 76)).heap[w.heap.size + 1]? = some (.cells #[.int .i64 m.req, .int .i64 m.res.err, .int .i64 m.res.ver] 76 (0, 0)) := by
  have := heap_alloc_new (w.alloc (.cells (bcells s (.slice ad n c) (.slice ad' n' c')) 27)) (.cells #[.int .i64 m.req, .int .i64 m.res.err, .int .i64 m.res.ver] 76)
  simpa using this
 have m0 := (block_facts hm0).2.2.2.2 0 _ rfl
 have m1 := (block_facts hm0).2.2.2.2 1 _ rfl
 have m2 := (block_facts hm0).2.2.2.2 2 _ rfl
 clear hm0
 obtain ⟨q0, _, _, _, _, _, _, _⟩ := h1.cells
 have hr := homeP_range m.req
 unfold bagg
 unfold bcells at *
 obtain ⟨h, hh⟩ : ∃ h, homeP m.req = h := ⟨_, rfl⟩
 rw [hh] at HH hR hl hr
 generalize s.low h = lw at *
 clear h1 hh hm
 obtain ⟨req, err, ver⟩ := m
 generalize s.seq = sq at *
 dsimp only at *
 have HR := Lib.hid hR
 clear hR
 go_enter Tryz.func75, Tryz.ntmps75
 go_wp2_with fail
 refine (HH.out _).mono ?_
 rintro _ _ ⟨rfl, rfl⟩
 generalize (w.alloc (.cells #[.int .i64 sq, .slice ad n c, .slice ad' n' c', .int .i64 s.l1, .int .i64 s.l2, .int .i64 s.l3, .int .i64 s.l4, .int .i64 s.l5] 27)).alloc (.cells #[.int .i64 req, .int .i64 err, .int .i64 ver] 76) = W at *
 by_cases c0 : h = 0
 ·have hb0 : (h != 0) = false := by simp [c0]
  obtain rfl : R = false := by rw [← HR.out]; simp [c0]
  go_wp2_with fail
  go_region
  all_goals
   go_wp2_with fail
   go_ret
   exact ⟨rfl, HB.out.drew⟩
 have hb0 : (h != 0) = true := by simpa using c0
 have h1 : 1 ≤ h := by omega
 have h5 : h ≤ 5 := by omega
 have hlw := hl h1 h5
 rw [show 3 + (h - 1).toNat = 3 + (h.toNat - 1) by omega] at hlw
 have hwr : IntKind.i64.wrap (h - 1) = h - 1 := IntWalk.i64_in _ (by omega)
 have hp0 : 0 ≤ h - 1 := by omega
 have hp5 : h - 1 < 5 := by omega
 clear hl hr
 by_cases c1 : lw ≤ req
 case neg =>
  obtain rfl : R = false := by rw [← HR.out]; simp [c1]
  have d : decide (lw ≤ req) = false := decide_eq_false c1
  clear c1
  go_wp2_with fail
  go_region
  all_goals
   go_wp2_with fail
   go_ret
   exact ⟨rfl, HB.out.drew⟩
 by_cases c2 : 0 ≤ err
 case neg =>
  obtain rfl : R = false := by rw [← HR.out]; simp [c2]
  have d : decide (0 ≤ err) = false := decide_eq_false c2
  clear c2
  go_wp2_with fail
  go_region
  all_goals
   go_wp2_with fail
   go_ret
   exact ⟨rfl, HB.out.drew⟩
 by_cases c3 : err ≤ 13
 case neg =>
  obtain rfl : R = false := by rw [← HR.out]; simp [c3]
  have d : decide (err ≤ 13) = false := decide_eq_false c3
  clear c3
  go_wp2_with fail
  go_region
  all_goals
   go_wp2_with fail
   go_ret
   exact ⟨rfl, HB.out.drew⟩
 by_cases c4 : 0 ≤ ver
 case neg =>
  obtain rfl : R = false := by rw [← HR.out]; simp [c4]
  have d : decide (0 ≤ ver) = false := decide_eq_false c4
  clear c4
  go_wp2_with fail
  go_region
  all_goals
   go_wp2_with fail
   go_ret
   exact ⟨rfl, HB.out.drew⟩
 by_cases c5 : ver ≤ sq
 case neg =>
  obtain rfl : R = false := by rw [← HR.out]; simp [c5]
  have d : decide (ver ≤ sq) = false := decide_eq_false c5
  clear c5
  go_wp2_with fail
  go_region
  all_goals
   go_wp2_with fail
   go_ret
   exact ⟨rfl, HB.out.drew⟩
 obtain rfl : R = true := by rw [← HR.out]; simp [c0, c1, c2, c3, c4, c5]
 go_wp2_with fail
 go_region
 all_goals
  go_wp2_with fail
  go_ret
  exact ⟨rfl, HB.out.drew⟩
theorem mayMemos_p (s : Bk) (u v : Value) (w : World) (h : BAt w s u v) (hwf : s.wf) :
  Calls Tryz.prog 37 #[bagg s u v] w fun e w' => e = .returned (.bool (mayMs s)) ∧ Below w.heap.size w w' := by
 obtain ⟨R, hR⟩ : ∃ R, mayMs s = R := ⟨_, rfl⟩
 rw [hR]
 unfold mayMs at hR
 obtain ⟨ad, cap, rfl, _⟩ := h.es.shape
 obtain ⟨ad', cap', rfl, _⟩ := h.ms.shape
 have HM := Lib.hid (fun (m : Me) (hm : m ∈ s.ms) W => mayMemo_p s m (hwf.reqs m hm) ad s.l.length cap ad' s.ms.length cap' W)
 have HC := Lib.hid (BC.new w s (.slice ad s.l.length cap) (.slice ad' s.ms.length cap'))
 have HB : Hid (Below w.heap.size w (w.alloc (.cells (bcells s (.slice ad s.l.length cap) (.slice ad' s.ms.length cap')) 27))) := Lib.hid ((Below.refl _ w).alloc (Nat.le_refl _) _)
 have HA := Lib.hid (h.below HB.out).ms
 have hn := h.shortM
 clear h hwf
 unfold bagg at HM ⊢
 have HC0 := HC.out.cells
 unfold bcells at HB HA HC0 HC
 obtain ⟨q0, q1, q2, q3, q4, q5, q6, q7⟩ := HC0
 by_cases h100 : 100 < s.ms.length
 ·have h1 : (100 : Int) < (s.ms.length : Int) := by omega
  rw [decide_eq_false (by omega), Bool.false_and] at hR
  subst hR
  clear HM HC HA
  go_enter Tryz.func37, Tryz.ntmps37
  go_wp2_with fail
  go_ret
  exact ⟨rfl, HB.out⟩
 ·have h1 : ¬ (100 : Int) < (s.ms.length : Int) := by omega
  rw [decide_eq_true (by omega), Bool.true_and] at hR
  have HR := Lib.hid hR
  clear hR h100
  go_enter Tryz.func37, Tryz.ntmps37
  go_wp2_with fail
  generalize w.alloc (.cells #[.int .i64 s.seq, .slice ad s.l.length cap, .slice ad' s.ms.length cap', .int .i64 s.l1, .int .i64 s.l2, .int .i64 s.l3, .int .i64 s.l4, .int .i64 s.l5] 27) = W at *
  clear q0 q1 q2 q3 q4 q5 q6 q7
  go_loopg [3, 5, 13] s.ms.length (fun gg s3 _ s13 wr => ∃ (k : Nat) (b : Int), k ≤ s.ms.length ∧ s.ms.length - k ≤ gg ∧ s13 = .int .i64 k ∧ s3 = .int .i64 b ∧ Hid (riseM s b (s.ms.drop k) = R) ∧ Hid (Below W.heap.size W wr))
  case atStart => exact ⟨0, 0, Nat.zero_le _, by omega, rfl, rfl, HR, Lib.hid (Below.refl _ _)⟩
  case round =>
   obtain ⟨k, b, hk, hg, rfl, rfl, HQ, HBW⟩ := hrel
   by_cases hlt : k < s.ms.length
   ·have hltz : (k : Int) < (s.ms.length : Int) := by omega
    obtain ⟨x, hx⟩ : ∃ x, s.ms[k]? = some x := ⟨_, List.getElem?_eq_getElem hlt⟩
    have hmem : x ∈ s.ms := List.mem_of_getElem? hx
    obtain ⟨g, o, rfl, d0, d1, d2, hgl⟩ := (HA.out.below HBW.out).get hx
    obtain ⟨q0, q1, q2, q3, q4, q5, q6, q7⟩ := (HC.out.below HBW.out).cells
    have hWr : w.heap.size < wr.heap.size := Nat.lt_of_lt_of_le HC.out.lt HBW.out.size
    have hQ := HQ.out
    rw [List.drop_eq_getElem_cons hlt, show s.ms[k] = x from (List.getElem?_eq_some_iff.1 hx).2] at hQ
    simp only [riseM] at hQ
    have HMX := Lib.hid (fun W => HM.out x hmem W)
    have HWA : Hid (Below W.heap.size W (wr.alloc (.cells #[.int .i64 x.req, .int .i64 x.res.err, .int .i64 x.res.ver] 76))) := Lib.hid (HBW.out.alloc HBW.out.size _)
    have HNX : Hid ((wr.alloc (.cells #[.int .i64 x.req, .int .i64 x.res.err, .int .i64 x.res.ver] 76)).heap[wr.heap.size]? = some (.cells #[.int .i64 x.req, .int .i64 x.res.err, .int .i64 x.res.ver] 76 (0, 0))) := Lib.hid (heap_alloc_new _ _)
    have hsn : (wr.alloc (.cells #[.int .i64 x.req, .int .i64 x.res.err, .int .i64 x.res.ver] 76)).heap.size = wr.heap.size + 1 := by simp
    clear hx hgl hmem
    by_cases p1 : x.req ≤ b
    ·obtain rfl : R = false := by rw [← hQ, decide_eq_false (show ¬ b < x.req by omega)]; rfl
     clear hQ
     go_wp2_with fail
     go_ret
     exact ⟨rfl, HB.out.trans (HWA.out.mono HB.out.size)⟩
    rw [decide_eq_true (show b < x.req by omega), Bool.true_and] at hQ
    go_wp2_with fail
    refine (HMX.out _).mono ?_
    rintro _ w2 ⟨rfl, hb2⟩
    have HW2 := Lib.hid (HWA.out.trans (hb2.mono HWA.out.size))
    have hN2 := (hb2.block _ (by rw [hsn]; omega)).trans HNX.out
    have e0 := (block_facts hN2).2.2.2.2 0 _ rfl
    clear hN2 hb2
    cases hp : mayMe s x with
    | false =>
     rw [hp, Bool.false_and] at hQ
     subst hQ
     go_wp2_with fail
     go_ret
     exact ⟨rfl, HB.out.trans (HW2.out.mono HB.out.size)⟩
    | true =>
     rw [hp, Bool.true_and] at hQ
     have HN := Lib.hid hQ
     clear hQ
     go_wp2_with fail
     go_roundg (s.ms.length - (k + 1))
     case measure => omega
     case rel => exact ⟨k + 1, x.req, by omega, by omega, by go_num, rfl, HN, HW2⟩
   ·have hltz : ¬ (k : Int) < (s.ms.length : Int) := by omega
    obtain rfl : R = true := by
     rw [← HQ.out, List.drop_eq_nil_of_le (by omega)]; rfl
    go_wp2_with fail
    go_ret
    exact ⟨rfl, HB.out.trans (HBW.out.mono HB.out.size)⟩
theorem mayEntries_p (s : Bk) (u v : Value) (w : World) (h : BAt w s u v) :
  Calls Tryz.prog 36 #[bagg s u v] w fun e w' => e = .returned (.bool (mayEs s.seq s.l)) ∧ Below w.heap.size w w' := by
 obtain ⟨R, hR⟩ : ∃ R, mayEs s.seq s.l = R := ⟨_, rfl⟩
 rw [hR]
 unfold mayEs at hR
 obtain ⟨ad, cap, rfl, _⟩ := h.es.shape
 obtain ⟨ad', cap', rfl, _⟩ := h.ms.shape
 have HM := Lib.hid (fun (e : En) (he : e ∈ s.l) a m W (hW : VsAt W (.slice a e.vs.length m) e.vs) => tmay_p e.key (.slice a e.vs.length m) e.vs W hW (h.shortV e he))
 have HC := Lib.hid (BC.new w s (.slice ad s.l.length cap) (.slice ad' s.ms.length cap'))
 have HB : Hid (Below w.heap.size w (w.alloc (.cells (bcells s (.slice ad s.l.length cap) (.slice ad' s.ms.length cap')) 27))) := Lib.hid ((Below.refl _ w).alloc (Nat.le_refl _) _)
 have HA := Lib.hid (h.below HB.out).es
 have hn := h.short
 have HVn := Lib.hid h.shortV
 clear h
 unfold bagg
 have HC0 := HC.out.cells
 unfold bcells at HB HA HC0 HC
 obtain ⟨q0, q1, q2, q3, q4, q5, q6, q7⟩ := HC0
 by_cases h100 : 40 < s.l.length
 ·have h1 : (40 : Int) < (s.l.length : Int) := by omega
  rw [decide_eq_false (by omega), Bool.false_and] at hR
  subst hR
  clear HM HC HA
  go_enter Tryz.func36, Tryz.ntmps36
  go_wp2_with fail
  go_ret
  exact ⟨rfl, HB.out⟩
 ·have h1 : ¬ (40 : Int) < (s.l.length : Int) := by omega
  rw [decide_eq_true (by omega), Bool.true_and] at hR
  have HR := Lib.hid hR
  clear hR h100
  go_enter Tryz.func36, Tryz.ntmps36
  go_wp2_with fail
  generalize w.alloc (.cells #[.int .i64 s.seq, .slice ad s.l.length cap, .slice ad' s.ms.length cap', .int .i64 s.l1, .int .i64 s.l2, .int .i64 s.l3, .int .i64 s.l4, .int .i64 s.l5] 27) = W at *
  clear q0 q1 q2 q3 q4 q5 q6 q7
  go_loopg [3, 5, 13] s.l.length (fun gg s3 _ s13 wr => ∃ (k : Nat) (b : ByteArray), k ≤ s.l.length ∧ s.l.length - k ≤ gg ∧ s13 = .int .i64 k ∧ s3 = .string b ∧ Hid (riseE s.seq b (s.l.drop k) = R) ∧ Hid (Below W.heap.size W wr))
  case atStart => exact ⟨0, ⟨#[]⟩, Nat.zero_le _, by omega, rfl, rfl, HR, Lib.hid (Below.refl _ _)⟩
  case round =>
   obtain ⟨k, b, hk, hg, rfl, rfl, HQ, HBW⟩ := hrel
   by_cases hlt : k < s.l.length
   ·have hltz : (k : Int) < (s.l.length : Int) := by omega
    obtain ⟨x, hx⟩ : ∃ x, s.l[k]? = some x := ⟨_, List.getElem?_eq_getElem hlt⟩
    have hmem : x ∈ s.l := List.mem_of_getElem? hx
    have hvn := HVn.out x hmem
    obtain ⟨g, o, a, m, rfl, d0, d1, hgl, hV⟩ := (HA.out.below HBW.out).get hx
    have q0 := (HC.out.below HBW.out).cells.1
    have hWr : w.heap.size < wr.heap.size := Nat.lt_of_lt_of_le HC.out.lt HBW.out.size
    have hQ := HQ.out
    rw [List.drop_eq_getElem_cons hlt, show s.l[k] = x from (List.getElem?_eq_some_iff.1 hx).2] at hQ
    simp only [riseE] at hQ
    have HWA : Hid (Below W.heap.size W (wr.alloc (.cells #[.string x.key, .slice a x.vs.length m] 45))) := Lib.hid (HBW.out.alloc HBW.out.size _)
    have HVA := Lib.hid (hV.below (w' := wr.alloc (.cells #[.string x.key, .slice a x.vs.length m] 45)) ((Below.refl _ wr).alloc (Nat.le_refl _) _))
    have HMX := Lib.hid (HM.out x hmem a m _ HVA.out)
    have HNX := Lib.hid (EC.new wr x.key a x.vs.length m 45)
    have hsn : (wr.alloc (.cells #[.string x.key, .slice a x.vs.length m] 45)).heap.size = wr.heap.size + 1 := by simp
    clear hx hgl hmem hV
    go_wp2_with fail
    refine HMX.out.mono ?_
    rintro _ w2 ⟨rfl, hb2⟩
    have HW2 := Lib.hid (HWA.out.trans (hb2.mono HWA.out.size))
    have HV2 := Lib.hid (HVA.out.below hb2)
    obtain ⟨⟨e0, e1⟩, _⟩ := HNX.out.below hb2
    have q0 := (HC.out.below HW2.out).cells.1
    have hs2 : wr.heap.size < w2.heap.size := by have := hb2.size; omega
    clear hb2
    cases hp : mayE x.key x.vs with
    | false =>
     rw [hp, Bool.false_and, Bool.false_and, Bool.false_and] at hQ
     subst hQ
     go_wp2_with fail
     go_ret
     exact ⟨rfl, HB.out.trans (HW2.out.mono HB.out.size)⟩
    | true =>
     rw [hp, Bool.true_and] at hQ
     have hpos : 1 ≤ x.vs.length := by
      unfold mayE at hp
      simp only [Bool.and_eq_true, decide_eq_true_eq] at hp
      exact hp.1.1.2
     cases hk2 : kle x.key b with
     | true =>
      have hk3 : (Op.bytesLess x.key.toList b.toList || x.key.toList == b.toList) = true := hk2
      rw [hk2, Bool.not_true, Bool.false_and, Bool.false_and] at hQ
      subst hQ
      go_wp2_with fail
      go_ret
      exact ⟨rfl, HB.out.trans (HW2.out.mono HB.out.size)⟩
     | false =>
      have hk3 : (Op.bytesLess x.key.toList b.toList || x.key.toList == b.toList) = false := hk2
      rw [hk2, Bool.not_false, Bool.true_and] at hQ
      obtain ⟨N, hN⟩ : ∃ N, x.vs.length = N + 1 := ⟨x.vs.length - 1, by omega⟩
      obtain ⟨y, hy⟩ : ∃ y, x.vs[N]? = some y := ⟨_, List.getElem?_eq_getElem (by omega)⟩
      have hlast : lastV x.vs = y.ver := by
       unfold lastV
       rw [List.getLast?_eq_getElem?, hN, Nat.add_sub_cancel, hy]
      have HV3 := HV2.out
      rw [hN] at HV3 e1 hvn
      obtain ⟨g', o', rfl, c0, _, _, hg'⟩ := HV3.get hy
      have hNi : (N : Int) < (N : Int) + 1 := by omega
      have hwr : IntKind.i64.wrap (N : Int) = (N : Int) := IntWalk.i64_in _ (by omega)
      rw [hlast] at hQ
      clear HV3 hy hlast HMX HNX HV2 HVA HM HA
      by_cases hv : y.ver ≤ s.seq
      ·rw [decide_eq_true hv, Bool.true_and] at hQ
       have hv' : ¬ s.seq < y.ver := by omega
       have HN := Lib.hid hQ
       clear hQ
       go_wp2_with fail
       go_region
       all_goals
        go_wp2_with fail
        go_roundg (s.l.length - (k + 1))
        case measure => omega
        case rel => exact ⟨k + 1, x.key, by omega, by omega, by go_num, rfl, HN, Lib.hid HW2.out.drew⟩
      ·rw [decide_eq_false hv, Bool.false_and] at hQ
       subst hQ
       have hv' : s.seq < y.ver := by omega
       go_wp2_with fail
       go_region
       all_goals
        go_wp2_with fail
        go_ret
        exact ⟨rfl, HB.out.trans (HW2.out.drew.mono HB.out.size)⟩
   ·have hltz : ¬ (k : Int) < (s.l.length : Int) := by omega
    obtain rfl : R = true := by
     rw [← HQ.out, List.drop_eq_nil_of_le (by omega)]; rfl
    go_wp2_with fail
    go_ret
    exact ⟨rfl, HB.out.trans (HBW.out.mono HB.out.size)⟩
theorem bmay_p (s : Bk) (u v : Value) (w : World) (h : BAt w s u v) (hwf : s.wf) :
  Calls Tryz.prog 9 #[bagg s u v] w fun e w' => e = .returned (.bool (bmay s)) ∧ Below w.heap.size w w' := by
 obtain ⟨R, hR⟩ : ∃ R, bmay s = R := ⟨_, rfl⟩
 rw [hR]
 unfold bmay at hR
 obtain ⟨ad, cap, rfl, _⟩ := h.es.shape
 obtain ⟨ad', cap', rfl, _⟩ := h.ms.shape
 have HE := Lib.hid (fun W (hW : BAt W s (.slice ad s.l.length cap) (.slice ad' s.ms.length cap')) => mayEntries_p s _ _ W hW)
 have HM := Lib.hid (fun W (hW : BAt W s (.slice ad s.l.length cap) (.slice ad' s.ms.length cap')) => mayMemos_p s _ _ W hW hwf)
 have HL := Lib.hid (fun W => mayLows_p s hwf W)
 have HC := Lib.hid (BC.new w s (.slice ad s.l.length cap) (.slice ad' s.ms.length cap'))
 have HB : Hid (Below w.heap.size w (w.alloc (.cells (bcells s (.slice ad s.l.length cap) (.slice ad' s.ms.length cap')) 27))) := Lib.hid ((Below.refl _ w).alloc (Nat.le_refl _) _)
 have HA := Lib.hid (h.below HB.out)
 clear h hwf
 unfold bagg at HE HM ⊢
 have HC0 := HC.out.cells
 unfold bcells at HB HA HC0 HC
 obtain ⟨q0, q1, q2, q3, q4, q5, q6, q7⟩ := HC0
 have HR := Lib.hid hR
 clear hR
 go_enter Tryz.func9, Tryz.ntmps9
 by_cases c0 : 0 ≤ s.seq
 case neg =>
  obtain rfl : R = false := by rw [← HR.out]; simp [c0]
  go_wp2_with fail
  go_ret
  exact ⟨rfl, HB.out⟩
 by_cases c1 : s.seq ≤ 1099511627776
 case neg =>
  obtain rfl : R = false := by rw [← HR.out]; simp [c1]
  go_wp2_with fail
  go_ret
  exact ⟨rfl, HB.out⟩
 rw [decide_eq_true c0, decide_eq_true c1, Bool.true_and, Bool.true_and] at HR
 go_wp2_with fail
 refine (HE.out _ HA.out).mono ?_
 rintro _ w1 ⟨rfl, hb1⟩
 have HB1 := Lib.hid (HB.out.trans (hb1.mono HB.out.size))
 have HA1 := Lib.hid (HA.out.below hb1)
 have HC1 := Lib.hid (HC.out.below hb1)
 clear hb1 q0 q1 q2 q3 q4 q5 q6 q7
 obtain ⟨q0, q1, q2, q3, q4, q5, q6, q7⟩ := HC1.out.cells
 cases he : mayEs s.seq s.l with
 | false =>
  obtain rfl : R = false := by rw [← HR.out, he]; rfl
  go_wp2_with fail
  go_ret
  exact ⟨rfl, HB1.out⟩
 | true =>
 rw [he, Bool.true_and] at HR
 go_wp2_with fail
 refine (HM.out _ HA1.out).mono ?_
 rintro _ w2 ⟨rfl, hb2⟩
 have HB2 := Lib.hid (HB1.out.trans (hb2.mono HB1.out.size))
 have HC2 := Lib.hid (HC1.out.below hb2)
 clear hb2 q0 q1 q2 q3 q4 q5 q6 q7
 obtain ⟨q0, q1, q2, q3, q4, q5, q6, q7⟩ := HC2.out.cells
 cases hm : mayMs s with
 | false =>
  obtain rfl : R = false := by rw [← HR.out, hm]; rfl
  go_wp2_with fail
  go_ret
  exact ⟨rfl, HB2.out⟩
 | true =>
 rw [hm, Bool.true_and] at HR
 go_wp2_with fail
 refine (HL.out _).mono ?_
 rintro _ w3 ⟨rfl, hb3⟩
 have HB3 := Lib.hid (HB2.out.trans (hb3.mono HB2.out.size))
 rw [HR.out]
 go_wp2_with fail
 go_ret
 exact ⟨rfl, HB3.out⟩
end Go.Proofs.YtlpgphiccjkenaaGreatDoor
