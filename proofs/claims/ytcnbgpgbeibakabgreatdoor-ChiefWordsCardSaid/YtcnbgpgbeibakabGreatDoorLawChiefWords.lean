/-
  Contracts of the program, and what they rest on.
-/
import Derived.Laws.Rows
import Derived.Test.YtcnbgpgbeibakabGreatDoorRChJ
import Derived.Test.YtcnbgpgbeibakabGreatDoorChP
namespace Go.Proofs.YtcnbgpgbeibakabGreatDoor
open Go.RowKit Go.Maps Go.Proofs.MapD Go.Proofs.Chest
def wdcells (k n to ep : Int) (q : Wq) : Array Value := #[.int .i64 k, .int .i64 n, .int .i64 to, .int .i64 ep, .int .i64 q.seq, .int .i64 q.req, .int .i64 q.un, .int .i64 q.e, .int .i64 q.v, .int .i64 q.ep, .slice q.a1 q.n1 q.c1, .int .i64 q.nw, .slice q.a2 q.n2 q.c2, .int .i64 q.ss, .slice q.a3 q.n3 q.c3, .slice q.a4 q.n4 q.c4, .int .i64 q.l1, .int .i64 q.l2, .int .i64 q.l3, .int .i64 q.l4, .int .i64 q.l5]
theorem wd_cells {w : World} {g : Nat} {k n to ep : Int} {q : Wq} (h : w.heap[g]? = some (.cells (wdcells k n to ep q) 45 (0, 0))) :
    w.cell? ⟨g, 0, none⟩ = some (.int .i64 k) ∧ w.cell? ⟨g, 1, none⟩ = some (.int .i64 n) ∧ w.cell? ⟨g, 2, none⟩ = some (.int .i64 to) ∧ w.cell? ⟨g, 3, none⟩ = some (.int .i64 ep) ∧ w.cell? ⟨g, 4, none⟩ = some (.int .i64 q.seq) ∧ w.cell? ⟨g, 5, none⟩ = some (.int .i64 q.req) ∧ w.cell? ⟨g, 6, none⟩ = some (.int .i64 q.un) ∧ w.cell? ⟨g, 7, none⟩ = some (.int .i64 q.e) ∧ w.cell? ⟨g, 8, none⟩ = some (.int .i64 q.v) ∧ w.cell? ⟨g, 9, none⟩ = some (.int .i64 q.ep) ∧ w.cell? ⟨g, 10, none⟩ = some (.slice q.a1 q.n1 q.c1) ∧ w.cell? ⟨g, 11, none⟩ = some (.int .i64 q.nw) ∧ w.cell? ⟨g, 12, none⟩ = some (.slice q.a2 q.n2 q.c2) ∧ w.cell? ⟨g, 13, none⟩ = some (.int .i64 q.ss) ∧ w.cell? ⟨g, 14, none⟩ = some (.slice q.a3 q.n3 q.c3) ∧ w.cell? ⟨g, 15, none⟩ = some (.slice q.a4 q.n4 q.c4) ∧ w.cell? ⟨g, 16, none⟩ = some (.int .i64 q.l1) ∧ w.cell? ⟨g, 17, none⟩ = some (.int .i64 q.l2) ∧ w.cell? ⟨g, 18, none⟩ = some (.int .i64 q.l3) ∧ w.cell? ⟨g, 19, none⟩ = some (.int .i64 q.l4) ∧ w.cell? ⟨g, 20, none⟩ = some (.int .i64 q.l5) := by
  refine ⟨?_, ?_, ?_, ?_, ?_, ?_, ?_, ?_, ?_, ?_, ?_, ?_, ?_, ?_, ?_, ?_, ?_, ?_, ?_, ?_, ?_⟩ <;> (rw [cell_block h]; rfl)
theorem isat_three (w : World) (x y z : Int) : IsAt (w.alloc (.cells #[.int .i64 x, .int .i64 y, .int .i64 z] 3)) (.slice (some ⟨w.heap.size, 0, none⟩) 3 3) [x, y, z] :=
  .inr ⟨w.heap.size, 0, 3, rfl, by simp, by unfold maxLen; omega, by simp, fun j u hu => by
    match j, hu with
    | 0, hu => simp at hu; subst hu; go_simp
    | 1, hu => simp at hu; subst hu; go_simp
    | 2, hu => simp at hu; subst hu; go_simp
    | j + 3, hu => simp at hu⟩
def wd0 : Cs := beginS ⟨2, [1, 2, 3], 0⟩ 0 0
def wdMem (k n to : Int) : Prop := to = 0 ∧ k = 1 ∧ 1 ≤ n ∧ n ≤ 3
theorem wd_step (k n to ep now : Int) : (stepS wd0 k n to ep now).1.chg = false ∧ (stepS wd0 k n to ep now).1.r = ⟨2, [1, 2, 3], 0⟩ ∧ (stepS wd0 k n to ep now).2.isSome = decide (to = 0 ∧ k = 1 ∧ 1 ≤ n ∧ n ≤ 3) := by
  unfold stepS
  by_cases h1 : to ≠ 0 ∨ n < 1 ∨ 5 < n
  · rw [if_pos h1]
    exact ⟨rfl, rfl, by rw [decide_eq_false (by omega)]; rfl⟩
  rw [if_neg h1]
  by_cases h2 : k = 1
  · rw [if_pos h2]
    obtain rfl | rfl | rfl | rfl | rfl : n = 1 ∨ n = 2 ∨ n = 3 ∨ n = 4 ∨ n = 5 := by omega
    all_goals
      refine ⟨rfl, rfl, ?_⟩
      first
        | (rw [decide_eq_true (by omega)]; rfl)
        | (rw [decide_eq_false (by omega)]; rfl)
  rw [if_neg h2]
  have h4 : decide (to = 0 ∧ k = 1 ∧ 1 ≤ n ∧ n ≤ 3) = false := decide_eq_false (by omega)
  rw [h4]
  by_cases h3 : k = 11
  · rw [if_pos h3]
    have h5 : fullS wd0 n ep = wd0 := by
      unfold fullS
      rw [if_neg]
      rintro ⟨h6, _⟩
      have h7 : n = 0 := h6
      omega
    rw [h5]
    exact ⟨rfl, rfl, rfl⟩
  · rw [if_neg h3]
    exact ⟨rfl, rfl, rfl⟩
def W4C (w : World) (x j : Nat) (s : Cs) : Prop := ∃ v v', CC w x j v v' s ∧ IsAt w v s.r.l ∧ s.r.l.length ≤ 1000
set_option maxRecDepth 100000 in
set_option maxHeartbeats 16000000 in
theorem chiefWords_walk (k n to ep : Int) (q : Wq) (now : Int) (w : World) (hB : BegunTrue10) (hlib : LibAt w) : Calls Tryz.prog 5 #[wagg k n to ep q, .int .i64 now] w fun e w' => e = .returned (.bool true) ∧ Below w.heap.size w w' := by
  have hbw : Below w.heap.size w (w.alloc (.cells #[.int .i64 k, .int .i64 n, .int .i64 to, .int .i64 ep, .int .i64 q.seq, .int .i64 q.req, .int .i64 q.un, .int .i64 q.e, .int .i64 q.v, .int .i64 q.ep, .slice q.a1 q.n1 q.c1, .int .i64 q.nw, .slice q.a2 q.n2 q.c2, .int .i64 q.ss, .slice q.a3 q.n3 q.c3, .slice q.a4 q.n4 q.c4, .int .i64 q.l1, .int .i64 q.l2, .int .i64 q.l3, .int .i64 q.l4, .int .i64 q.l5] 45)) := (Below.refl _ _).alloc (Nat.le_refl _) _
  have HB := Lib.hid (hB _ (hlib.below hbw))
  have HL := Lib.hid hlib
  have HW : Hid (Sp w (w.alloc (.cells #[.int .i64 k, .int .i64 n, .int .i64 to, .int .i64 ep, .int .i64 q.seq, .int .i64 q.req, .int .i64 q.un, .int .i64 q.e, .int .i64 q.v, .int .i64 q.ep, .slice q.a1 q.n1 q.c1, .int .i64 q.nw, .slice q.a2 q.n2 q.c2, .int .i64 q.ss, .slice q.a3 q.n3 q.c3, .slice q.a4 q.n4 q.c4, .int .i64 q.l1, .int .i64 q.l2, .int .i64 q.l3, .int .i64 q.l4, .int .i64 q.l5] 45)) [wx w.heap.size (wdcells k n to ep q)]) := Lib.hid ((Sp.start w).new hbw ⟨[w.heap.size], ⟨heap_alloc_new w _, rfl⟩, by simp⟩)
  clear hB hlib hbw
  unfold wagg
  go_enter Tryz.func5, Tryz.ntmps5
  go_wp2_with fail
  generalize w.alloc _ = W0 at *
  refine HB.out.mono ?_
  rintro _ w1 ⟨rfl, hb1⟩
  have H1 := Lib.hid (HW.out.below hb1)
  clear hb1 HB HW
  go_wp2_with fail
  refine (s_new 1048576 H1.out).mono ?_
  rintro _ w2 ⟨c, rfl, h2⟩
  rw [r_new] at h2
  have hi2 := isat_three w2 1 2 3
  have H2 := Lib.hid ((h2.ixNew ((Below.refl _ _).alloc (Nat.le_refl _) _) hi2 (by intro g hg; cases hg; exact Nat.le_refl _)).swap)
  clear h2 hi2 H1
  go_wp2_with fail
  generalize w2.alloc _ = W2 at *
  refine (open_new H2.out (by decide) (by kernel_rfl) HL.out 0).mono ?_
  rintro _ w3 ⟨x, j, rfl, h3⟩
  have H3 : Hid (CK w w3 x j c 1048576 wd0 [ix (.slice (some ⟨w2.heap.size, 0, none⟩) 3 3) [1, 2, 3], wx w.heap.size (wdcells k n to ep q)]) := Lib.hid h3
  clear h3 H2
  generalize ix (.slice (some ⟨w2.heap.size, 0, none⟩) 3 3) [1, 2, 3] = I3 at *
  by_cases t1 : now < 0
  · have d1 : decide (now < 0) = true := decide_eq_true t1
    go_wp2_with fail
    go_ret
    exact ⟨rfl, H3.out.bl⟩
  by_cases t2 : 1073741824 < now
  · have d1 : decide (now < 0) = false := decide_eq_false t1
    have d2 : decide (1073741824 < now) = true := decide_eq_true t2
    go_wp2_with fail
    go_ret
    exact ⟨rfl, H3.out.bl⟩
  have d1 : decide (now < 0) = false := decide_eq_false t1
  have d2 : decide (1073741824 < now) = false := decide_eq_false t2
  have HN : Hid (0 ≤ now ∧ now ≤ 4611686018427387904) := Lib.hid (by omega)
  have HX : Hid (∀ (W : World) (s : Cs) (l : List It), CK w W x j c 1048576 s (l ++ [I3, wx w.heap.size (wdcells k n to ep q)]) → W.heap[w.heap.size]? = some (.cells (wdcells k n to ep q) 45 (0, 0))) := Lib.hid (fun W s l h => by
    obtain ⟨v, v', b, rs, hg, hsp⟩ := h
    obtain ⟨F, h6, _⟩ := hsp.mem (i := wx w.heap.size (wdcells k n to ep q)) (by simp)
    exact h6)
  have hbx := HX.out w3 wd0 [] H3.out
  clear t1 t2
  go_wp2_with (refine wpList_load_row (o := ⟨some 33, _, _, _, _, _⟩) rfl 45 (.tmp 2) rfl w.heap.size rfl 45 (wdcells k n to ep q) (0, 0) _ hbx Tryz.underlying45 rfl (by kernel_rfl) ?_)
  clear hbx
  have hws := wd_step k n to ep now
  refine (step_p H3.out (by decide) HL.out k n to ep q now HN.out.1 HN.out.2).mono ?_
  rintro _ w4 ⟨u, rfl, h4⟩
  generalize stepS wd0 k n to ep now = p at *
  obtain ⟨s, qq⟩ := p
  obtain ⟨hw1, hw2, hw3⟩ := hws
  dsimp only at hw1 hw2 hw3 h4
  have hHX := HX.out
  have f2 := field2
  have HR : Hid ((s.chg = false ∧ s.r = ⟨2, [1, 2, 3], 0⟩) ∧ CK w w4 x j c 1048576 s [I3, wx w.heap.size (wdcells k n to ep q)]) := Lib.hid ⟨⟨hw1, hw2⟩, h4.ck⟩
  have HCL : Hid (W4C w4 x j s) := Lib.hid (by
    obtain ⟨v, v', hc, hv, _, hl⟩ := h4.ck.chief
    exact ⟨v, v', hc, hv, by omega⟩)
  have hcell : w4.heap[w.heap.size]? = some (.cells (wdcells k n to ep q) 45 (0, 0)) := hHX w4 s [] HR.out.2
  clear hw1 hw2 HX H3 hHX
  obtain ⟨c0, c1, c2, c3, c4, c5, c6, c7, c8, c9, c10, c11, c12, c13, c14, c15, c16, c17, c18, c19, c20⟩ := wd_cells hcell
  clear hcell c3 c4 c5 c6 c7 c8 c9 c10 c11 c12 c13 c14 c15 c16 c17 c18 c19 c20
  by_cases a1 : to = 0
  case neg =>
    have b1 : (to == 0) = false := by rw [beq_eq_false_iff_ne]; exact a1
    rw [decide_eq_false (by intro h; exact a1 h.1)] at hw3
    obtain rfl : qq = none := by cases qq <;> first | rfl | cases hw3
    obtain ⟨rfl, _⟩ := h4
    clear hw3
    clear a1
    go_wp2_with fail
    obtain ⟨v5, v5', hc5, hv5, hl5⟩ := HCL.out
    have hch5 := HR.out.1.1
    refine (changing_p hc5).mono ?_
    rw [hch5]
    rintro _ _ ⟨rfl, rfl⟩
    clear hch5
    go_wp2_with fail
    refine (croster_p hc5 hv5 hl5).mono ?_
    rw [HR.out.1.2]
    rintro _ w6 ⟨_, _, rfl, _, hb6⟩
    have H6 := Lib.hid (HR.out.2.bl.trans (hb6.mono HR.out.2.bl.size))
    clear hb6 hc5 hv5 hl5
    go_wp2_with fail
    go_ret
    exact ⟨rfl, H6.out⟩
  subst a1
  by_cases a2 : k = 1
  case neg =>
    have b2 : (k == 1) = false := by rw [beq_eq_false_iff_ne]; exact a2
    rw [decide_eq_false (by intro h; exact a2 h.2.1)] at hw3
    obtain rfl : qq = none := by cases qq <;> first | rfl | cases hw3
    obtain ⟨rfl, _⟩ := h4
    clear hw3
    clear a2
    go_wp2_with fail
    obtain ⟨v5, v5', hc5, hv5, hl5⟩ := HCL.out
    have hch5 := HR.out.1.1
    refine (changing_p hc5).mono ?_
    rw [hch5]
    rintro _ _ ⟨rfl, rfl⟩
    clear hch5
    go_wp2_with fail
    refine (croster_p hc5 hv5 hl5).mono ?_
    rw [HR.out.1.2]
    rintro _ w6 ⟨_, _, rfl, _, hb6⟩
    have H6 := Lib.hid (HR.out.2.bl.trans (hb6.mono HR.out.2.bl.size))
    clear hb6 hc5 hv5 hl5
    go_wp2_with fail
    go_ret
    exact ⟨rfl, H6.out⟩
  subst a2
  by_cases a3 : 1 ≤ n
  case neg =>
    have b3 : decide (1 ≤ n) = false := decide_eq_false a3
    rw [decide_eq_false (by intro h; exact a3 h.2.2.1)] at hw3
    obtain rfl : qq = none := by cases qq <;> first | rfl | cases hw3
    obtain ⟨rfl, _⟩ := h4
    clear hw3
    clear a3
    go_wp2_with fail
    obtain ⟨v5, v5', hc5, hv5, hl5⟩ := HCL.out
    have hch5 := HR.out.1.1
    refine (changing_p hc5).mono ?_
    rw [hch5]
    rintro _ _ ⟨rfl, rfl⟩
    clear hch5
    go_wp2_with fail
    refine (croster_p hc5 hv5 hl5).mono ?_
    rw [HR.out.1.2]
    rintro _ w6 ⟨_, _, rfl, _, hb6⟩
    have H6 := Lib.hid (HR.out.2.bl.trans (hb6.mono HR.out.2.bl.size))
    clear hb6 hc5 hv5 hl5
    go_wp2_with fail
    go_ret
    exact ⟨rfl, H6.out⟩
  have b3 : decide (1 ≤ n) = true := decide_eq_true a3
  by_cases a4 : n ≤ 3
  case neg =>
    have b4 : decide (n ≤ 3) = false := decide_eq_false a4
    rw [decide_eq_false (by intro h; exact a4 h.2.2.2)] at hw3
    obtain rfl : qq = none := by cases qq <;> first | rfl | cases hw3
    obtain ⟨rfl, _⟩ := h4
    clear hw3
    clear a3 a4
    go_wp2_with fail
    obtain ⟨v5, v5', hc5, hv5, hl5⟩ := HCL.out
    have hch5 := HR.out.1.1
    refine (changing_p hc5).mono ?_
    rw [hch5]
    rintro _ _ ⟨rfl, rfl⟩
    clear hch5
    go_wp2_with fail
    refine (croster_p hc5 hv5 hl5).mono ?_
    rw [HR.out.1.2]
    rintro _ w6 ⟨_, _, rfl, _, hb6⟩
    have H6 := Lib.hid (HR.out.2.bl.trans (hb6.mono HR.out.2.bl.size))
    clear hb6 hc5 hv5 hl5
    go_wp2_with fail
    go_ret
    exact ⟨rfl, H6.out⟩
  have b4 : decide (n ≤ 3) = true := decide_eq_true a4
  rw [decide_eq_true (by exact ⟨rfl, rfl, a3, a4⟩)] at hw3
  obtain ⟨t, tt, rfl⟩ : ∃ t tt, qq = some (t, tt) := by
    cases qq with
    | none => cases hw3
    | some z => exact ⟨z.1, z.2, rfl⟩
  obtain ⟨g4, ad4, cap4, rfl, _⟩ := h4
  clear hw3 a3 a4
  go_wp2_with fail
  obtain ⟨v5, v5', hc5, hv5, hl5⟩ := HCL.out
  have hch5 := HR.out.1.1
  refine (changing_p hc5).mono ?_
  rw [hch5]
  rintro _ _ ⟨rfl, rfl⟩
  clear hch5
  go_wp2_with fail
  refine (croster_p hc5 hv5 hl5).mono ?_
  rw [HR.out.1.2]
  rintro _ w6 ⟨_, _, rfl, _, hb6⟩
  have H6 := Lib.hid (HR.out.2.bl.trans (hb6.mono HR.out.2.bl.size))
  clear hb6 hc5 hv5 hl5
  go_wp2_with fail
  go_ret
  exact ⟨rfl, H6.out⟩
end Go.Proofs.YtcnbgpgbeibakabGreatDoor
