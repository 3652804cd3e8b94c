/-
 Contracts of the program, and what they rest on.
-/
import Derived.Test.YtlpgphiccjkenaaGreatDoorTk
import Derived.Test.YtlpgphiccjkenaaGreatDoorM18
import Derived.Test.YtlpgphiccjkenaaGreatDoorM08
import Derived.Test.YtlpgphiccjkenaaGreatDoorRBkM
import Derived.Test.YtlpgphiccjkenaaGreatDoorFor
import Derived.Test.YtlpgphiccjkenaaGreatDoorFor2
set_option maxRecDepth 100000
set_option maxHeartbeats 16000000
namespace Go.Proofs.YtlpgphiccjkenaaGreatDoor
open Go.RowKit
theorem forgetB_eq (s : Bk) (h low : Int) (e : homeP low = h) (hl : s.low h < low) : forgetB s h low = { s.setLow h low with ms := s.ms.filter fun m => !fgone h low m } := by
 unfold forgetB
 rw [if_pos ⟨e, hl⟩]
 rfl
theorem setLow_same (s : Bk) (h n : Int) : (s.setLow h n).l = s.l ∧ (s.setLow h n).ms = s.ms := by
 unfold Bk.setLow
 repeat (first | exact ⟨rfl, rfl⟩ | split)
theorem SO.low {w : World} {B b : Nat} {s : Bk} {u v : Value} (ho : SO w B b s u v) {h : Int} (h1 : 1 ≤ h) (h5 : h ≤ 5) (n : Int) : SO (w.setCell ⟨b, 3 + (h.toNat - 1), none⟩ (.int .i64 n)) B b (s.setLow h n) u v := by
 obtain ⟨e1, e2⟩ := setLow_same s h n
 refine ⟨?_, by rw [e1]; exact ho.es.off ho.bc (by decide) (by decide), by rw [e2]; exact ho.ms.off ho.bc (by decide), ho.lo⟩
 have := heap_setCell_same w b (3 + (h.toNat - 1)) _ _ (.int .i64 n) ho.bc
 unfold BC
 rw [this]
 obtain rfl | rfl | rfl | rfl | rfl : h = 1 ∨ h = 2 ∨ h = 3 ∨ h = 4 ∨ h = 5 := by omega
 all_goals rfl
theorem forget_ok : ForgetOK := by
 intro s u v B b h low w hso h1 h5 hl0 hl1 hn hr hB hh
 have HH := Lib.hid (fun W => home_p low hl0 hl1 W)
 rw [hh] at HH
 have hhb : (h != h) = false := by simp
 obtain ⟨a, c, hu, _⟩ := hso.es.at.shape
 obtain ⟨a', c', hv, _⟩ := hso.ms.at.shape
 have hwr : IntKind.i64.wrap (h - 1) = h - 1 := IntWalk.i64_in _ (by omega)
 have hp0 : 0 ≤ h - 1 := by omega
 have hp5 : h - 1 < 5 := by omega
 have hbl : b < w.heap.size := hso.bc.lt
 have HB0 : Hid (Below w.heap.size w ((w.alloc (.cells #[.int .i64 h] 3)).alloc (.cells #[.int .i64 low] 2))) := Lib.hid (((Below.refl _ w).alloc (Nat.le_refl _) (.cells #[.int .i64 h] 3)).alloc (by simp) (.cells #[.int .i64 low] 2))
 have hlw := (hso.bc.below HB0.out).low (n := h) h1 h5
 rw [show 3 + (h - 1).toNat = 3 + (h.toNat - 1) by omega] at hlw
 have hP : ((w.alloc (.cells #[.int .i64 h] 3)).alloc (.cells #[.int .i64 low] 2)).heap[w.heap.size]? = some (.cells #[.int .i64 h] 3 (0, 0)) := by
  rw [heap_alloc_old _ _ (by simp), heap_alloc_new]
 have hQ : ((w.alloc (.cells #[.int .i64 h] 3)).alloc (.cells #[.int .i64 low] 2)).heap[w.heap.size + 1]? = some (.cells #[.int .i64 low] 2 (0, 0)) := by
  have := heap_alloc_new (w.alloc (.cells #[.int .i64 h] 3)) (.cells #[.int .i64 low] 2)
  simpa using this
 have HP := Lib.hid hP
 have HQ := Lib.hid hQ
 by_cases hlt : s.low h < low
 ·have hltb : decide (low ≤ s.low h) = false := decide_eq_false (by omega)
  rw [forgetB_eq s h low hh hlt]
  subst hu hv
  have HSO := Lib.hid hso
  have HR := Lib.hid hr
  have HBw := Lib.hid hB
  generalize s.low h = lo at *
  have HHR := Lib.hid (And.intro h1 h5)
  clear hlt hso hr hB hh hP hQ
  go_enter Tryz.func34, Tryz.ntmps34
  go_wp2_with fail
  generalize (w.alloc (.cells #[.int .i64 h] 3)).alloc (.cells #[.int .i64 low] 2) = W at *
  have p0 : W.cell? ⟨w.heap.size, 0, none⟩ = some (.int .i64 h) := (block_facts HP.out).2.2.2.2 0 _ rfl
  have q0 : W.cell? ⟨w.heap.size + 1, 0, none⟩ = some (.int .i64 low) := (block_facts HQ.out).2.2.2.2 0 _ rfl
  go_quiet ((go_at_call 26; exact Calls.quiet_of_same ((HH.out _).mono fun _ _ ⟨a, b⟩ => ⟨a, b.symm⟩)))
  have hdn : Below W.heap.size W (W.drewN nq) := ⟨rfl, rfl, rfl, Nat.le_refl _, fun _ _ => rfl⟩
  have hb1 := HB0.out.trans (hdn.mono HB0.out.size)
  have HS1 := Lib.hid (HSO.out.below hb1)
  have HP1 : Hid ((W.drewN nq).heap[w.heap.size]? = some (.cells #[.int .i64 h] 3 (0, 0))) := Lib.hid HP.out
  have HQ1 : Hid ((W.drewN nq).heap[w.heap.size + 1]? = some (.cells #[.int .i64 low] 2 (0, 0))) := Lib.hid HQ.out
  have HB1 := Lib.hid hb1
  clear hdn hb1 HB0 HP HQ p0 q0 hlw
  generalize W.drewN nq = W1 at *
  have HCP : Hid (∀ W' : World, W'.heap[w.heap.size]? = W1.heap[w.heap.size]? → W'.heap[w.heap.size + 1]? = W1.heap[w.heap.size + 1]? → W'.cell? ⟨w.heap.size, 0, none⟩ = some (.int .i64 h) ∧ W'.cell? ⟨w.heap.size + 1, 0, none⟩ = some (.int .i64 low)) := Lib.hid (fun W' e1 e2 => ⟨(block_facts (e1.trans HP1.out)).2.2.2.2 0 _ rfl, (block_facts (e2.trans HQ1.out)).2.2.2.2 0 _ rfl⟩)
  go_wp2_with fail
  have hS0 := HCP.out W1.drew rfl rfl
  refine wp_region_last (S := fun W' => W'.cell? ⟨w.heap.size, 0, none⟩ = some (.int .i64 h) ∧ W'.cell? ⟨w.heap.size + 1, 0, none⟩ = some (.int .i64 low)) (by kernel_rfl) (ops := List.toArray [_, _, _, _, _, _, _]) (o := _) rfl (by kernel_rfl) ?_
  refine tk 0 (.pointer (some ⟨b, 0, none⟩)) rfl ?_ hS0 ?_
  ·intro w' ⟨s0, s1⟩; go_simp
  refine tk 1 (.int .i64 h) rfl ?_ hS0 ?_
  ·intro w' ⟨s0, s1⟩; go_simp
  refine tk 2 (.int .i64 (h - 1)) rfl ?_ hS0 ?_
  ·intro w' ⟨s0, s1⟩; go_simp
  refine tk 3 (.int .i64 low) rfl ?_ hS0 ?_
  ·intro w' ⟨s0, s1⟩; go_simp
  refine tk 4 (.pointer (some ⟨b, 0, none⟩)) rfl ?_ hS0 ?_
  ·intro w' ⟨s0, s1⟩; go_simp
  refine tk 5 (.pointer (some ⟨b, 3, none⟩)) rfl ?_ hS0 ?_
  ·intro w' ⟨s0, s1⟩; go_simp
  refine tk 6 (.pointer (some ⟨b, 3 + (h.toNat - 1), none⟩)) rfl ?_ hS0 ?_
  ·intro w' ⟨s0, s1⟩; go_simp
  simp only [List.getElem_toArray, List.getElem_cons_succ, List.getElem_cons_zero, Act.put, List.setIfInBounds_toArray, List.set_cons_zero, List.set_cons_succ]
  clear hS0
  refine wpAnyH_done (by kernel_rfl) ?_ _
  rw [Exit.then]
  rw [if_pos (by rfl)]
  have hlw := HS1.out.bc.low (n := h) HHR.out.1 HHR.out.2
  rw [show 3 + (h - 1).toNat = 3 + (h.toNat - 1) by omega] at hlw
  have hfz := HS1.out.bc.free (3 + (h.toNat - 1))
  go_simp
  have HS2 := Lib.hid (HS1.out.low HHR.out.1 HHR.out.2 low)
  have hne : ∀ x, x ≠ b → (W1.setCell ⟨b, 3 + (h.toNat - 1), none⟩ (.int .i64 low)).heap[x]? = W1.heap[x]? := fun x hx => Below.heap_setCell _ _ _ _ (by simpa using hx)
  have HC2 := Lib.hid (HCP.out _ (hne w.heap.size (by omega)) (hne (w.heap.size + 1) (by omega)))
  have HB2 := Lib.hid ((HB1.out.mono HBw.out).setCell (p := ⟨b, 3 + (h.toNat - 1), none⟩) HSO.out.lo (.int .i64 low))
  have HK2 : Hid (∀ x, x < w.heap.size → x ≠ b → (W1.setCell ⟨b, 3 + (h.toNat - 1), none⟩ (.int .i64 low)).heap[x]? = w.heap[x]?) := Lib.hid (fun x h1 h2 => (hne x h2).trans (HB1.out.block x h1))
  have HZ2 : Hid (w.heap.size + 2 ≤ (W1.setCell ⟨b, 3 + (h.toNat - 1), none⟩ (.int .i64 low)).heap.size) := Lib.hid (by
   have := (Array.getElem?_eq_some_iff.1 HQ1.out).1
   simp
   omega)
  clear hne hlw hfz HCP HS1 HP1 HQ1 HB1
  generalize W1.setCell ⟨b, 3 + (h.toNat - 1), none⟩ (.int .i64 low) = W2 at *
  have HE := Lib.hid (setLow_same s h low)
  generalize hs2 : s.setLow h low = s2 at *
  obtain ⟨e1, e2⟩ := HE.out
  have HSE := Lib.hid hs2
  clear hs2
  have HDF := Lib.hid (fun W (hW : Below W2.heap.size W2 W) => mdelf_p _ s2.ms h low w.heap.size (w.heap.size + 1) B W (HS2.out.ms.below hW) (by rw [e2]; exact hn) (by rw [e2]; exact HR.out) ⟨by have := hW.size; have := HZ2.out; omega, by have := hW.size; have := HZ2.out; omega, (hW.cell (p := ⟨w.heap.size, 0, none⟩) (by have := HZ2.out; show w.heap.size < _; omega)).trans HC2.out.1, (hW.cell (p := ⟨w.heap.size + 1, 0, none⟩) (by have := HZ2.out; show w.heap.size + 1 < _; omega)).trans HC2.out.2⟩ (mown_ne HSO.out.ms (Nat.le_refl _)) (mown_ne HSO.out.ms (Nat.le_succ _)) (by have := hW.size; have := HZ2.out; have := HBw.out; omega))
  have q2 := HS2.out.bc.cells.2.2.1
  have qf := HS2.out.bc.free 2
  rw [e2] at HDF
  go_wp2_with fail
  refine (HDF.out _ ((Below.refl W2.heap.size W2).drew)).mono ?_
  rintro _ z ⟨a2, c2, rfl, ho, hb2, hk2⟩
  have hob : (Value.slice a' s.ms.length c').ownBlock ≠ some b := row_off HS2.out.ms HS2.out.bc (by decide)
  have hbc2 : BC z b s2 (.slice a s.l.length c) (.slice a' s.ms.length c') := (hk2 b HS2.out.bc.lt hob).trans HS2.out.bc
  have hes2 : EOwn z B (.slice a s.l.length c) s2.l := by
   obtain ⟨ps, hr, hf⟩ := HS2.out.es
   exact ⟨ps, row_kept hr (fun g hg => hk2 g (World.ownsRow.lt hr g hg).2 (fun e => rows_apart (T := 76) HS2.out.ms hr (by decide) e hg)), hf.map (fun _ _ hx => hx.kept (fun g hg => hk2 g (hx.lt hg).2 (fun e => rows_apart (T := 76) HS2.out.ms hx (by decide) e hg)))⟩
  have HSO3 := Lib.hid (SO.memos hbc2 hes2 ho HSO.out.lo)
  have HB3 := Lib.hid ((HB2.out.drew.trans hb2).setCell (p := ⟨b, 2, none⟩) HSO.out.lo (.slice a2 (s.ms.filter fun m => !fgone h low m).length c2))
  have HK3 : Hid (∀ i, i < w.heap.size → i ≠ b → (Value.slice a' s.ms.length c').ownBlock ≠ some i → (z.setCell ⟨b, 2, none⟩ (.slice a2 (s.ms.filter fun m => !fgone h low m).length c2)).heap[i]? = w.heap[i]?) := Lib.hid (fun i h1 h2 h3 => by
   rw [Below.heap_setCell _ _ _ _ (by simpa using h2)]
   exact (hk2 i (by have := HZ2.out; show i < W2.heap.size; omega) h3).trans (HK2.out i h1 h2))
  clear q2 qf
  have q2 := hbc2.cells.2.2.1
  have qf := hbc2.free 2
  have hE1 := Lib.hid e1
  clear hbc2 hes2 ho hb2 hk2 hob e1 e2
  go_wp2_with fail
  exact bodyPost_end (v := .tuple #[]) (by simp [results, Tryz.results34, go_sem]) rfl ⟨rfl, ⟨a, c, a2, c2, by have k := HSO3.out; rw [← HSE.out] at k; rw [show (s.setLow h low).l.length = s.l.length by rw [(setLow_same s h low).1]]; exact k⟩, HB3.out, fun j h1 h2 _ h4 => HK3.out j h1 h2 h4⟩
 ·have hltb : decide (low ≤ s.low h) = true := decide_eq_true (by omega)
  have hs : forgetB s h low = s := by unfold forgetB; rw [if_neg (fun x => hlt x.2)]
  rw [hs]
  subst hu hv
  have HSO := Lib.hid hso
  have HBw := Lib.hid hB
  generalize s.low h = lo at *
  clear hlt hso hr hB hh hs hP hQ
  go_enter Tryz.func34, Tryz.ntmps34
  go_wp2_with fail
  generalize (w.alloc (.cells #[.int .i64 h] 3)).alloc (.cells #[.int .i64 low] 2) = W at *
  have p0 : W.cell? ⟨w.heap.size, 0, none⟩ = some (.int .i64 h) := (block_facts HP.out).2.2.2.2 0 _ rfl
  have q0 : W.cell? ⟨w.heap.size + 1, 0, none⟩ = some (.int .i64 low) := (block_facts HQ.out).2.2.2.2 0 _ rfl
  go_quiet ((go_at_call 26; exact Calls.quiet_of_same ((HH.out _).mono fun _ _ ⟨a, b⟩ => ⟨a, b.symm⟩)))
  go_wp2_with fail
  have hb2 : Below w.heap.size w (W.drewN nq) := ⟨HB0.out.os, HB0.out.tape, HB0.out.output, HB0.out.size, HB0.out.block⟩
  exact bodyPost_ret (v := .tuple #[]) (by simp [results, Tryz.results34, go_sem]) rfl ⟨rfl, ⟨a, c, a', c', HSO.out.below hb2⟩, hb2.mono HBw.out, fun j hj _ _ _ => hb2.block j hj⟩
end Go.Proofs.YtlpgphiccjkenaaGreatDoor
