/-
 Contracts of the program, and what they rest on.
-/
import Derived.Test.YtlpgphiccjkenaaGreatDoorM18
import Derived.Test.YtlpgphiccjkenaaGreatDoorM11
import Derived.Test.YtlpgphiccjkenaaGreatDoorRTomF
import Derived.Test.YtlpgphiccjkenaaGreatDoorRBkM
import Derived.Test.YtlpgphiccjkenaaGreatDoorDelE
set_option maxRecDepth 100000
set_option maxHeartbeats 16000000
namespace Go.Proofs.YtlpgphiccjkenaaGreatDoor
open Go.RowKit
theorem erase_set (l : List En) (k : Nat) (x : En) : (l.set k x).take k ++ (l.set k x).drop (k + 1) = l.eraseIdx k := by
 rw [List.eraseIdx_eq_take_drop_succ, List.take_set_of_le (Nat.le_refl _), List.drop_set_of_lt (Nat.lt_succ_self _)]
theorem EOwn.erase {z : World} {B g cap k r : Nat} {l : List En} {ps : List (ByteArray × Value)} (hl : l.length = k + 1 + r) (hr : z.ownsRow B 45 2 (.slice (some ⟨g, 0, none⟩) (k + r) cap) (k + r) ((ecells ps).take (k * 2) ++ (ecells ps).drop ((k + 1) * 2))) (hf : Fit (VOwn z B) l ps) :
  EOwn z B (.slice (some ⟨g, 0, none⟩) (k + r) cap) (l.take k ++ l.drop (k + 1)) := by
 refine ⟨ps.take k ++ ps.drop (k + 1), ?_, (hf.take k).append (hf.drop (k + 1))⟩
 rw [ecells_append, ← ecells_take, ← ecells_drop, show (l.take k ++ l.drop (k + 1)).length = k + r by rw [List.length_append, List.length_take, List.length_drop]; omega]
 exact hr
theorem purge_ok : PurgeOK := by
 intro s u v B b k e n w h he hv hls hB
 obtain ⟨R, hR⟩ : ∃ R, purgeK s.l k e n = R := ⟨_, rfl⟩
 rw [hR]
 have hkl : k < s.l.length := (List.getElem?_eq_some_iff.1 he).1
 have hkz : (k : Int) < (s.l.length : Int) := by omega
 obtain ⟨ad, cap, rfl, _⟩ := h.es.at.shape
 obtain ⟨ad', cap', rfl, _⟩ := h.ms.at.shape
 have hb0 : Below w.heap.size w (w.alloc (.cells #[.int .i64 0, .int .i64 0] 30)) := (Below.refl _ w).alloc (Nat.le_refl _) _
 have HS := Lib.hid (h.below hb0)
 have HZ : Hid (RC (w.alloc (.cells #[.int .i64 0, .int .i64 0] 30)) w.heap.size ⟨0, 0⟩) := Lib.hid (RC.new w ⟨0, 0⟩)
 have HB := Lib.hid hb0
 have HF6 := Lib.hid (fun W => failed_p 6 W)
 have HT := Lib.hid (fun a m W hW => tpurge_p e.key (.slice a e.vs.length m) e.vs n W hW hv)
 have HR := Lib.hid hR
 have HE := Lib.hid he
 have hbw := h.bc.lt
 have H0 := Lib.hid h
 have HBw := Lib.hid hB
 clear h hb0 hR he hB
 obtain ⟨_, q1, _, _, _, _, _, _⟩ := H0.out.bc.cells
 obtain ⟨g, o, a, m, rfl, d0, d1, hg, hvs⟩ := H0.out.es.at.get HE.out
 have HVS := Lib.hid (hvs.below HB.out)
 have HGL := Lib.hid hg
 clear hvs
 unfold EntAns at HT
 go_enter Tryz.func68, Tryz.ntmps68
 go_wp2_with fail
 generalize w.alloc (.cells #[.int .i64 0, .int .i64 0] 30) = W at *
 have hBW : B ≤ W.heap.size := by have := HS.out.lo; have := HS.out.bc.lt; omega
 refine (HT.out a m W HVS.out).mono ?_
 rintro _ w1 ⟨a2, m2, rfl, ho, hb1⟩
 have HW := Lib.hid (AddW.late (W := W) (key := e.key) hb1 ho hBW)
 have HO1 := Lib.hid ho
 have HB1 := Lib.hid hb1
 have HZ1 := Lib.hid (HZ.out.below hb1)
 have HL1 := Lib.hid HZ1.out.lt
 clear q1 d0 d1 hg ho hb1 HVS HT
 cases hq : (purgeE e.vs n).2 with
 | false =>
  have hR := HR.out
  unfold purgeK at hR
  rw [hq] at hR
  obtain rfl : R = (s.l, ⟨6, 0⟩) := hR.symm
  go_wp2_with fail
  have HS2 := Lib.hid (HS.out.below HW.out.bl)
  have HB2 := Lib.hid (HB.out.trans (HW.out.bl.mono HB.out.size))
  have HZ2 := Lib.hid (HZ.out.below HW.out.bl)
  generalize w1.alloc (.cells #[.string e.key, .slice a2 (purgeE e.vs n).1.length m2] 45) = W2 at *
  refine (HF6.out _).mono ?_
  rintro _ w3 ⟨rfl, hb3⟩
  have HZ3 := Lib.hid (HZ2.out.below hb3)
  obtain ⟨v0, v1, vf0, vf1⟩ := HZ3.out.facts
  dsimp only at v0 v1
  have hB3 := ((HB2.out.trans (hb3.mono HB2.out.size)).setCell (p := ⟨w.heap.size, 0, none⟩) (Nat.le_refl _) (.int .i64 6)).setCell (p := ⟨w.heap.size, 1, none⟩) (Nat.le_refl _) (.int .i64 0)
  have HF := Lib.hid (And.intro hB3 (HZ3.out.set ⟨6, 0⟩))
  clear hb3 hB3
  go_wp2_with fail
  obtain ⟨t0, t1, _⟩ := HF.out.2.facts
  dsimp only at t0 t1
  exact bodyPost_ret (v := .agg #[.int .i64 6, .int .i64 0]) (by simp [results, Tryz.results68, go_sem, t0, t1]) rfl ⟨rfl, ⟨_, _, H0.out.below HF.out.1⟩, HF.out.1.mono HBw.out, fun j hj _ _ => HF.out.1.block j hj⟩
 | true =>
  obtain ⟨l2, hl2⟩ : ∃ l2, (purgeE e.vs n).1 = l2 := ⟨_, rfl⟩
  have hR := HR.out
  unfold purgeK at hR
  rw [hq, if_pos rfl, hl2] at hR
  rw [hl2] at HW HO1 ⊢
  have HS1 := Lib.hid (HS.out.below HB1.out)
  obtain rfl : o = 0 := by
   obtain ⟨ps, hrow, _⟩ := H0.out.es
   rcases hrow.2 with ⟨h2, _⟩ | ⟨_, _, _, h2, _⟩
   ·cases h2
   ·simp only [Value.slice.injEq, Option.some.injEq, Addr.mk.injEq] at h2
    exact h2.1.2.1
  obtain ⟨hfr, hBg, hgl1⟩ : (∀ j, w1.frozen? ⟨g, j, none⟩ = false) ∧ B ≤ g ∧ g < w1.heap.size := by
   obtain ⟨ps, hrow, _⟩ := HS1.out.es
   exact row_free hrow
  have f0 := hfr (k * 2)
  have f1 := hfr (k * 2 + 1)
  obtain ⟨g', o', a', m', hgo, i0, i1, _, _⟩ := HS1.out.es.at.get HE.out
  simp only [Option.some.injEq, Addr.mk.injEq] at hgo
  obtain ⟨rfl, rfl, _⟩ := hgo
  rw [Nat.zero_add] at i0 i1
  obtain ⟨_, q1, _, _, _, _, _, _⟩ := HS1.out.bc.cells
  have hbl1 := HS1.out.bc.lt
  have hgw := (H0.out.es.lt (g := g) rfl).2
  have n0 : ¬ w.heap.size = g := by omega
  have n1 : ¬ g = w.heap.size := by omega
  have hbg : ¬ b = g := fun e => by
   obtain ⟨ps, hrow, _⟩ := HS1.out.es
   subst e
   exact row_off hrow HS1.out.bc (by decide) rfl
  obtain ⟨r0, r1, rf0, rf1⟩ := HZ1.out.facts
  dsimp only at r0 r1
  have hzl := HZ1.out.lt
  have hset := EOwn.set (k := k) HS1.out.es (g := g) rfl HE.out (HO1.out.mono hBW)
  have hmsk : MOwn ((w1.setCell ⟨g, k * 2, none⟩ (.string e.key)).setCell ⟨g, k * 2 + 1, none⟩ (.slice a2 l2.length m2)) B (.slice ad' s.ms.length cap') s.ms := row_kept HS1.out.ms (fun j hj => by
   have hne : ¬ j = g := fun e => by
    obtain ⟨ps, hrow, _⟩ := HS1.out.es
    subst e
    exact rows_apart hrow HS1.out.ms (by decide) rfl hj
   rw [Below.heap_setCell _ _ _ _ hne, Below.heap_setCell _ _ _ _ hne])
  have hbc : BC ((w1.setCell ⟨g, k * 2, none⟩ (.string e.key)).setCell ⟨g, k * 2 + 1, none⟩ (.slice a2 l2.length m2)) b s (.slice (some ⟨g, 0, none⟩) s.l.length cap) (.slice ad' s.ms.length cap') := by
   unfold BC
   rw [Below.heap_setCell _ _ _ _ hbg, Below.heap_setCell _ _ _ _ hbg]
   exact HS1.out.bc
  have hrc : RC ((w1.setCell ⟨g, k * 2, none⟩ (.string e.key)).setCell ⟨g, k * 2 + 1, none⟩ (.slice a2 l2.length m2)) w.heap.size ⟨0, 0⟩ := by
   unfold RC
   rw [Below.heap_setCell _ _ _ _ n0, Below.heap_setCell _ _ _ _ n0]
   exact HZ1.out
  have hblk : ∀ j, j < w.heap.size → ¬ j = g → ((w1.setCell ⟨g, k * 2, none⟩ (.string e.key)).setCell ⟨g, k * 2 + 1, none⟩ (.slice a2 l2.length m2)).heap[j]? = w.heap[j]? := fun j hj hne => by
   rw [Below.heap_setCell _ _ _ _ hne, Below.heap_setCell _ _ _ _ hne]
   exact (HB.out.trans (HB1.out.mono HB.out.size)).block j hj
  have hbB := (((HB.out.trans (HB1.out.mono HB.out.size)).mono HBw.out).setCell (p := ⟨g, k * 2, none⟩) hBg (.string e.key)).setCell (p := ⟨g, k * 2 + 1, none⟩) hBg (.slice a2 l2.length m2)
  have hso : SO ((w1.setCell ⟨g, k * 2, none⟩ (.string e.key)).setCell ⟨g, k * 2 + 1, none⟩ (.slice a2 l2.length m2)) B b { s with l := s.l.set k ⟨e.key, l2⟩ } (.slice (some ⟨g, 0, none⟩) s.l.length cap) (.slice ad' s.ms.length cap') := ⟨hbc, hset, hmsk, H0.out.lo⟩
  have HSOA := Lib.hid hso
  have HRC := Lib.hid hrc
  have HBLK := Lib.hid (And.intro hblk hbB)
  clear hset hmsk hbc hrc hblk hbB hso
  clear hfr
  by_cases h0 : l2 = []
  ·subst h0
   have hlz : (([] : List Ve).length : Int) = 0 := rfl
   rw [if_pos rfl] at hR
   subst hR
   simp only [List.length_nil] at HSOA HRC HBLK ⊢
   have hwk : IntKind.i64.wrap ((k : Int) + 1) = (k : Int) + 1 := IntWalk.i64_in _ (by omega)
   go_wp2_with fail
   go_region
   all_goals
    go_wp2_with fail
    generalize (w1.setCell ⟨g, k * 2, none⟩ (.string e.key)).setCell ⟨g, k * 2 + 1, none⟩ (.slice a2 0 m2) = WA at *
    have hal : Below WA.heap.size WA (WA.alloc (.cells #[.string e.key, .slice a2 0 m2] 45)).drew := ((Below.refl _ _).alloc (Nat.le_refl _) _).drew
    have hsd := HSOA.out.below hal
    have hrd := HRC.out.below hal
    have hbd := HBLK.out.2.trans (hal.mono (Nat.le_trans HBw.out HBLK.out.2.size))
    have hkd : ∀ j, j < w.heap.size → ¬ j = g → (WA.alloc (.cells #[.string e.key, .slice a2 0 m2] 45)).drew.heap[j]? = w.heap[j]? := fun j hj hne => (hal.block j (Nat.lt_of_lt_of_le hj HBLK.out.2.size)).trans (HBLK.out.1 j hj hne)
    generalize (WA.alloc (.cells #[.string e.key, .slice a2 0 m2] 45)).drew = WD at *
    obtain ⟨r, hr⟩ : ∃ r, s.l.length = k + 1 + r := ⟨s.l.length - (k + 1), by omega⟩
    obtain ⟨ps, hrow, hfit⟩ := hsd.es
    dsimp only at hrow hfit
    have hl' : (s.l.set k ⟨e.key, []⟩).length = k + 1 + r := by rw [List.length_set, hr]
    have hrow2 := hrow
    rw [hl', hr] at hrow2
    have HDL := ent_del g cap k r (ecells ps) B WD hrow2 (hfit.one (fun _ _ h => VOwn.one h)) (by omega)
    rw [← hr] at HDL
    refine HDL.mono ?_
    rintro _ z ⟨rfl, hz, hb3, hk3⟩
    have hez := EOwn.erase hl' hz (hfit.map (fun _ _ hx => hx.kept (fun g' hg' => hk3 g' (fun e => rows_apart hrow hx (by decide) rfl (by rw [hg', e])))))
    rw [erase_set] at hez
    have hmz : MOwn z B (.slice ad' s.ms.length cap') s.ms := row_kept hsd.ms (fun j hj => hk3 j (fun e => rows_apart (T := 45) hrow hsd.ms (by decide) rfl (by rw [hj, e])))
    have hbz : BC z b s (.slice (some ⟨g, 0, none⟩) s.l.length cap) (.slice ad' s.ms.length cap') := (hk3 b hbg).trans hsd.bc
    have hrz : RC z w.heap.size ⟨0, 0⟩ := (hk3 _ n0).trans hrd
    have hso := SO.entries (u' := .slice (some ⟨g, 0, none⟩) (k + r) cap) hbz hez hmz H0.out.lo
    have hrz2 : RC (z.setCell ⟨b, 1, none⟩ (.slice (some ⟨g, 0, none⟩) (k + r) cap)) w.heap.size ⟨0, 0⟩ := by
     unfold RC
     rw [Below.heap_setCell _ _ _ _ (by show w.heap.size ≠ b; omega)]
     exact hrz
    have hso2 := hso.res hrz2 ⟨0, n⟩
    have hr2 := hrz2.set ⟨0, n⟩
    dsimp only at hso2 hr2
    have hbB2 := (((hbd.trans hb3).setCell (p := ⟨b, 1, none⟩) H0.out.lo (.slice (some ⟨g, 0, none⟩) (k + r) cap)).setCell (p := ⟨w.heap.size, 0, none⟩) HBw.out (.int .i64 0)).setCell (p := ⟨w.heap.size, 1, none⟩) HBw.out (.int .i64 n)
    have hkz : ∀ j, j < w.heap.size → j ≠ b → ¬ j = g → (((z.setCell ⟨b, 1, none⟩ (.slice (some ⟨g, 0, none⟩) (k + r) cap)).setCell ⟨w.heap.size, 0, none⟩ (.int .i64 0)).setCell ⟨w.heap.size, 1, none⟩ (.int .i64 n)).heap[j]? = w.heap[j]? := fun j hj h1 h2 => by
     rw [Below.heap_setCell _ _ _ _ (by show j ≠ w.heap.size; omega), Below.heap_setCell _ _ _ _ (by show j ≠ w.heap.size; omega), Below.heap_setCell _ _ _ _ (by simpa using h1)]
     exact (hk3 j h2).trans (hkd j hj h2)
    have HF := Lib.hid (And.intro hso2 (And.intro hr2 (And.intro hbB2 hkz)))
    have q1' := hbz.cells.2.1
    have qf1 := hbz.free 1
    have hbzl := hbz.lt
    obtain ⟨z0, z1, zf0, zf1⟩ := hrz.facts
    dsimp only at z0 z1
    have hrzl := hrz.lt
    have hnb : ¬ b = w.heap.size := by omega
    have hnb' : ¬ w.heap.size = b := by omega
    have hlen : (s.l.eraseIdx k).length = k + r := by rw [List.length_eraseIdx_of_lt hkl]; omega
    have HLN := Lib.hid hlen
    clear hso hso2 hr2 hbB2 hkz hez hmz hbz hrz hrz2 hsd hrd hbd hkd hrow hrow2 hfit hz hb3 hk3 HDL hlen hal
    go_wp2_with fail
    obtain ⟨t0, t1, _⟩ := HF.out.2.1.facts
    dsimp only at t0 t1
    refine bodyPost_ret (v := .agg #[.int .i64 0, .int .i64 n]) (by simp [results, Tryz.results68, go_sem, t0, t1]) rfl ⟨rfl, ⟨some ⟨g, 0, none⟩, cap, ?_⟩, HF.out.2.2.1, fun j hj h1 hjo => HF.out.2.2.2 j hj h1 (fun e => hjo (by rw [e]; rfl))⟩
    dsimp only
    rw [HLN.out]
    exact HF.out.1
  ·have hlz : ((l2.length : Int) == 0) = false := by
    rw [beq_eq_false_iff_ne]
    have : l2.length ≠ 0 := fun x => h0 (List.eq_nil_of_length_eq_zero x)
    omega
   rw [if_neg h0] at hR
   subst hR
   clear h0
   go_wp2_with fail
   go_region
   all_goals
    go_wp2_with fail
    generalize (w1.setCell ⟨g, k * 2, none⟩ (.string e.key)).setCell ⟨g, k * 2 + 1, none⟩ (.slice a2 l2.length m2) = WA at *
    have hs2 := HSOA.out.res HRC.out ⟨0, n⟩
    have hr2 := HRC.out.set ⟨0, n⟩
    dsimp only at hs2 hr2
    have hb2 : Below B w ((WA.setCell ⟨w.heap.size, 0, none⟩ (.int .i64 0)).setCell ⟨w.heap.size, 1, none⟩ (.int .i64 n)) := (HBLK.out.2.setCell (p := ⟨w.heap.size, 0, none⟩) HBw.out _).setCell (p := ⟨w.heap.size, 1, none⟩) HBw.out _
    have hk2 : ∀ j, j < w.heap.size → ¬ j = g → ((WA.setCell ⟨w.heap.size, 0, none⟩ (.int .i64 0)).setCell ⟨w.heap.size, 1, none⟩ (.int .i64 n)).heap[j]? = w.heap[j]? := fun j hj hne => by
     rw [Below.heap_setCell _ _ _ _ (by show j ≠ w.heap.size; omega), Below.heap_setCell _ _ _ _ (by show j ≠ w.heap.size; omega)]
     exact HBLK.out.1 j hj hne
    generalize (WA.setCell ⟨w.heap.size, 0, none⟩ (.int .i64 0)).setCell ⟨w.heap.size, 1, none⟩ (.int .i64 n) = WB at *
    have hal : Below WB.heap.size WB (WB.alloc (.cells #[.string e.key, .slice a2 l2.length m2] 45)).drew := ((Below.refl _ _).alloc (Nat.le_refl _) _).drew
    obtain ⟨t0, t1, _⟩ := (hr2.below hal).facts
    dsimp only at t0 t1
    refine bodyPost_ret (v := .agg #[.int .i64 0, .int .i64 n]) (by simp [results, Tryz.results68, go_sem, t0, t1]) rfl ⟨rfl, ⟨some ⟨g, 0, none⟩, cap, ?_⟩, hb2.trans (hal.mono (Nat.le_trans HBw.out hb2.size)), fun j hj _ hjo => (hal.block j (Nat.lt_of_lt_of_le hj hb2.size)).trans (hk2 j hj (fun e => hjo (by rw [e]; rfl)))⟩
    rw [List.length_set]
    exact hs2.below hal
end Go.Proofs.YtlpgphiccjkenaaGreatDoor
