/-
 Contracts of the program, and what they rest on.
-/
import Derived.Test.YtlpgphiccjkenaaGreatDoorM12
import Derived.Test.YtlpgphiccjkenaaGreatDoorM11
import Derived.Test.YtlpgphiccjkenaaGreatDoorM13
import Derived.Test.YtlpgphiccjkenaaGreatDoorM14
import Derived.Deep.RegionHeld3
set_option maxRecDepth 100000
set_option maxHeartbeats 16000000
namespace Go.Proofs.YtlpgphiccjkenaaGreatDoor
open Go.Shelf Go.RowKit
theorem eclone_p (v : Value) (l : List En) (w : World) (h : EsAt w v l) (hn : l.length ≤ 1000000) :
  Calls Tryz.prog 117 #[v] w fun e w' => ∃ ad' cap' ps, e = .returned (.slice ad' l.length cap') ∧ w'.ownsRow w.heap.size 45 2 (.slice ad' l.length cap') l.length (ecells ps) ∧ Fit (VsAt w) l ps ∧ Below w.heap.size w w' := by
 obtain ⟨i0, hi, hz0, hz1, hz2⟩ := ent_info
 have q22 : ∀ (w : World) (a : Option Addr) (n c n' c' : Nat), (binOp .eql 23 (.slice a n c) (.slice none n' c')).run Tryz.prog w = .ok (.bool a.isNone) w := fun w a n c n' c' => Lib.run_eql_slice_nil w _ _ a n c n' c' Tryz.underlying23
 rcases h with ⟨rfl, rfl⟩ | ⟨g, o, cap, ps, rfl, h1, h2, h3, h4, h5⟩
 ·go_enter Tryz.func117, Tryz.ntmps117
  go_wp2
  go_ret
  exact ⟨none, 0, [], rfl, World.ownsRow_nil _ _ _ _, trivial, Below.refl _ _⟩
 ·have A : Aside (∀ j u, (ecells ps)[j]? = some u → w.cell? ⟨g, o + j, none⟩ = some u) := h4
  have F : Hid (Fit (VsAt w) l ps) := h5
  have hlen : (ecells ps).length = l.length * 2 := by rw [ecells_length, F.out.len]
  have hone : ∀ u ∈ ecells ps, u.oneCell' = true := Fit.one (fun _ _ h => h.one) F.out
  clear h4 h5
  go_enter Tryz.func117, Tryz.ntmps117
  go_wp2_with (at_builtin; refine wpList_append_own _ rfl _ _ 23 rfl w.heap.size 45 i0 _ 2 40 Tryz.underlying23 hi hz0 hz1 hz2 rfl (by decide) _ _ _ rfl (World.ownsRow_made w #[] 0 (Nat.le_refl _) (Nat.zero_le _) (by simp)) ⟨g, o, none⟩ l.length cap (ecells ps) rfl ?qc1 ?qc2 ?qc3 ?qc4 ?qc5 ?qc6 ?_)
  case qc1 => exact hlen
  case qc2 =>
   intro j u hj
   rw [Addr.add_lit]
   exact Lib.cell?_alloc_some _ (A.out j u hj)
  case qc3 => exact hone
  case qc4 => rw [Nat.zero_add]; unfold maxLen; omega
  case qc5 => rw [Nat.zero_add]; omega
  case qc6 => simp
  intro v' w1 hown hgrow hnil
  go_wp2
  go_ret
  have hown' : w1.ownsRow w.heap.size 45 2 v' l.length (ecells ps) := by simpa using hown
  have hb : Below w.heap.size w w1 := ((Below.refl _ w).alloc (Nat.le_refl _) _).grown hgrow (by simp) (by intro k hk; simp [Value.ownBlock] at hk; omega)
  rcases hown'.2 with ⟨rfl, h0⟩ | ⟨g', cap', cur, rfl, _⟩
  ·exact ⟨none, 0, ps, by rw [h0]; rfl, by rw [h0] at hown' ⊢; exact hown', F.out, hb⟩
  ·exact ⟨_, cap', ps, rfl, hown', F.out, hb⟩
theorem mclone_p (v : Value) (l : List Me) (w : World) (h : MsAt w v l) (hn : l.length ≤ 1000000) :
  Calls Tryz.prog 64 #[v] w fun e w' => ∃ ad' cap', e = .returned (.slice ad' l.length cap') ∧ MOwn w' w.heap.size (.slice ad' l.length cap') l ∧ Below w.heap.size w w' := by
 obtain ⟨i0, hi, hz0, hz1, hz2⟩ := mem_info
 have q22 : ∀ (w : World) (a : Option Addr) (n c n' c' : Nat), (binOp .eql 24 (.slice a n c) (.slice none n' c')).run Tryz.prog w = .ok (.bool a.isNone) w := fun w a n c n' c' => Lib.run_eql_slice_nil w _ _ a n c n' c' Tryz.underlying24
 rcases h with ⟨rfl, rfl⟩ | ⟨g, o, cap, rfl, h1, h2, h3, h4⟩
 ·go_enter Tryz.func64, Tryz.ntmps64
  go_wp2
  go_ret
  exact ⟨none, 0, rfl, World.ownsRow_nil _ _ _ _, Below.refl _ _⟩
 ·have A : Aside (∀ j u, (mcells l)[j]? = some u → w.cell? ⟨g, o + j, none⟩ = some u) := h4
  have hlen := mcells_length l
  have hone := mcells_one l
  clear h4
  go_enter Tryz.func64, Tryz.ntmps64
  go_wp2_with (at_builtin; refine wpList_append_own _ rfl _ _ 24 rfl w.heap.size 76 i0 _ 3 24 Tryz.underlying24 hi hz0 hz1 hz2 rfl (by decide) _ _ _ rfl (World.ownsRow_made w #[] 0 (Nat.le_refl _) (Nat.zero_le _) (by simp)) ⟨g, o, none⟩ l.length cap (mcells l) rfl ?qc1 ?qc2 ?qc3 ?qc4 ?qc5 ?qc6 ?_)
  case qc1 => exact hlen
  case qc2 =>
   intro j u hj
   rw [Addr.add_lit]
   exact Lib.cell?_alloc_some _ (A.out j u hj)
  case qc3 => exact hone
  case qc4 => rw [Nat.zero_add]; unfold maxLen; omega
  case qc5 => rw [Nat.zero_add]; omega
  case qc6 => simp
  intro v' w1 hown hgrow hnil
  go_wp2
  go_ret
  have hown' : MOwn w1 w.heap.size v' l := by simpa [MOwn] using hown
  obtain ⟨ad', cap', rfl⟩ := hown'.shape
  refine ⟨ad', cap', rfl, hown', ?_⟩
  exact ((Below.refl _ w).alloc (Nat.le_refl _) _).grown hgrow (by simp) (by intro k hk; simp [Value.ownBlock] at hk; omega)
theorem row_of_cells {w : World} {B n k g cap : Nat} {T : TypeId} {cs : List Value} (h : w.ownsRow B T k (.slice (some ⟨g, 0, none⟩) n cap) n cs) : ∀ j u, cs[j]? = some u → w.cell? ⟨g, j, none⟩ = some u := fun j u hu => by
 have := World.ownsRow.cells h (g := g) rfl j u hu
 rw [Addr.add_lit, Nat.zero_add] at this
 exact this
theorem row_free {w : World} {B n k g cap : Nat} {T : TypeId} {cs : List Value} (h : w.ownsRow B T k (.slice (some ⟨g, 0, none⟩) n cap) n cs) : (∀ j, w.frozen? ⟨g, j, none⟩ = false) ∧ B ≤ g ∧ g < w.heap.size := by
 rcases h.2 with ⟨h2, _⟩ | ⟨g', cap', cur, hv, hB, hg, hn, hm, hs, ht⟩
 ·cases h2
 ·simp only [Value.slice.injEq, Option.some.injEq, Addr.mk.injEq] at hv
  obtain ⟨⟨rfl, _⟩, _, rfl⟩ := hv
  exact ⟨(block_facts hg).2.1, hB, (block_facts hg).2.2.1⟩
def Half (w0 w : World) (B k : Nat) (v : Value) (l : List En) : Prop :=
 ∃ ps qs, w.ownsRow B 45 2 v l.length (ecells (ps ++ qs)) ∧ Fit (VOwn w B) (l.take k) ps ∧ Fit (VsAt w0) (l.drop k) qs
theorem copiedEntries_p (v : Value) (l : List En) (w : World) (h : EsAt w v l) (hn : l.length ≤ 1000000) (hv : ∀ e ∈ l, e.vs.length ≤ 1000000) :
  Calls Tryz.prog 63 #[v] w fun e w' => ∃ ad' cap', e = .returned (.slice ad' l.length cap') ∧ EOwn w' w.heap.size (.slice ad' l.length cap') l ∧ Below w.heap.size w w' := by
 have HC := Lib.hid (eclone_p v l w h hn)
 have HK := Lib.hid (fun (e : En) (he : e ∈ l) u W (hu : VsAt W u e.vs) => vclone_p u e.vs W hu (hv e he))
 obtain ⟨ad, cap, rfl, _⟩ := h.shape
 clear h hv
 go_enter Tryz.func63, Tryz.ntmps63
 go_wp2_with fail
 refine HC.out.mono ?_
 rintro _ w1 ⟨ad', cap', ps, rfl, hrow, hfit, hb1⟩
 have HB1 := Lib.hid hb1
 have H0 : Hid (Half w w1 w.heap.size 0 (.slice ad' l.length cap') l) := Lib.hid ⟨[], ps, hrow, by simp [Fit], by simpa using hfit⟩
 clear hrow hfit hb1
 go_wp2_with fail
 go_loopg [4, 9] l.length (fun gg _ s9 wr => ∃ k : Nat, k ≤ l.length ∧ l.length - k ≤ gg ∧ s9 = .int .i64 k ∧ Hid (Half w wr w.heap.size k (.slice ad' l.length cap') l) ∧ Hid (Below w.heap.size w wr))
 case atStart => exact ⟨0, Nat.zero_le _, by omega, rfl, H0, HB1⟩
 case round =>
  obtain ⟨k, hk, hg, rfl, HH, HBW⟩ := hrel
  by_cases hlt : k < l.length
  ·have hltz : (k : Int) < (l.length : Int) := by omega
   obtain ⟨ps, qs, hrow, hp, hq⟩ := HH.out
   obtain ⟨x, hx⟩ : ∃ x, l[k]? = some x := ⟨_, List.getElem?_eq_getElem hlt⟩
   have hmem : x ∈ l := List.mem_of_getElem? hx
   have hdrop : l.drop k = x :: l.drop (k + 1) := by
    rw [List.drop_eq_getElem_cons hlt, show l[k] = x from (List.getElem?_eq_some_iff.1 hx).2]
   rw [hdrop] at hq
   have hpl : ps.length = k := by rw [hp.len, List.length_take]; omega
   cases qs with
   | nil => exact hq.elim
   | cons q qs =>
   obtain ⟨hq1, hq2, hq3⟩ := hq
   obtain ⟨g, rfl⟩ : ∃ g, ad' = some ⟨g, 0, none⟩ := by
    rcases hrow.2 with ⟨_, h0⟩ | ⟨g, _, _, e, _⟩
    ·omega
    ·simp only [Value.slice.injEq] at e
     exact ⟨g, e.1⟩
   obtain ⟨a, m, hqs, _⟩ := hq2.shape
   have hcell := row_of_cells hrow
   have hc1 : wr.cell? ⟨g, k * 2 + 1, none⟩ = some (.slice a x.vs.length m) := by
    apply hcell
    have := (ecells_get (ps ++ q :: qs) k q (by rw [List.getElem?_append_right (by omega), hpl, Nat.sub_self]; rfl)).2
    rw [this, hqs]
   obtain ⟨hfr, hBg, hgw⟩ := row_free hrow
   have hf1 := hfr (k * 2 + 1)
   have HX := Lib.hid (HK.out x hmem (.slice a x.vs.length m) wr (by rw [← hqs]; exact hq2.below HBW.out))
   have HF : Hid (∀ (w2 : World) (a2 : Option Addr) (m2 : Nat), VOwn w2 wr.heap.size (.slice a2 x.vs.length m2) x.vs → Below wr.heap.size wr w2 → Half w (w2.setCell ⟨g, k * 2 + 1, none⟩ (.slice a2 x.vs.length m2)) w.heap.size (k + 1) (.slice (some ⟨g, 0, none⟩) l.length cap') l ∧ Below w.heap.size w (w2.setCell ⟨g, k * 2 + 1, none⟩ (.slice a2 x.vs.length m2)) ∧ w2.cell? ⟨g, k * 2 + 1, none⟩ = some (.slice a x.vs.length m) ∧ w2.frozen? ⟨g, k * 2 + 1, none⟩ = false) := Lib.hid (by
    intro w2 a2 m2 ho hb2
    have hrow2 : w2.ownsRow w.heap.size 45 2 (.slice (some ⟨g, 0, none⟩) l.length cap') l.length (ecells (ps ++ q :: qs)) := row_kept hrow (fun g' hg' => hb2.block g' (hrow.lt g' hg').2)
    have hap : ∀ (z : Value) (n : List Ve), VOwn w2 w.heap.size z n → VOwn (w2.setCell ⟨g, k * 2 + 1, none⟩ (.slice a2 x.vs.length m2)) w.heap.size z n := fun z n hz => hz.kept (fun g' hg' => by
     have hne : g' ≠ g := fun e => by
      subst e
      exact rows_apart (T := 55) hz hrow2 (by decide) hg' rfl
     rw [Below.heap_setCell _ _ _ _ hne])
    refine ⟨⟨ps ++ [(x.key, .slice a2 x.vs.length m2)], qs, ?_, ?_, hq3⟩, ?_, ?_, ?_⟩
    ·have r := row_set (j := k * 2 + 1) (x := .slice a2 x.vs.length m2) hrow2 rfl
     rw [ecells_set (ps ++ q :: qs) k q _ (by rw [List.getElem?_append_right (by omega), hpl, Nat.sub_self]; rfl)] at r
     rw [List.set_append_right _ _ (by omega), hpl, Nat.sub_self, hq1] at r
     simpa using r
    ·rw [List.take_add_one, hx]
     exact Fit.append (hp.map (fun _ _ hz => hap _ _ (hz.below hb2))) ⟨rfl, hap _ _ (ho.mono HBW.out.size), trivial⟩
    ·exact (HBW.out.trans (hb2.mono HBW.out.size)).setCell (p := ⟨g, k * 2 + 1, none⟩) hBg _
    ·exact (hb2.cell (p := ⟨g, k * 2 + 1, none⟩) hgw).trans hc1
    ·rw [World.frozen?_of_block (a := ⟨g, k * 2 + 1, none⟩) (hb2.block g hgw)]; exact hf1)
   clear hrow hp hq1 hq2 hq3 hcell hfr hqs hdrop hx hmem hf1
   go_wp2_with fail
   refine HX.out.mono ?_
   rintro _ w2 ⟨a2, m2, rfl, ho, hb2⟩
   obtain ⟨z1, z2, z3, z4⟩ := HF.out w2 a2 m2 ho hb2
   have Z1 := Lib.hid z1
   have Z2 := Lib.hid z2
   clear ho hb2 z1 z2 hc1
   go_wp2_with fail
   go_roundg (l.length - (k + 1))
   case measure => omega
   case rel => exact ⟨k + 1, by omega, by omega, by go_num, Z1, Z2⟩
  ·have hltz : ¬ (k : Int) < (l.length : Int) := by omega
   have hE : EOwn wr w.heap.size (.slice ad' l.length cap') l := by
    obtain ⟨ps, qs, hrow, hp, hq⟩ := HH.out
    rw [List.take_of_length_le (by omega)] at hp
    rw [List.drop_eq_nil_of_le (by omega)] at hq
    cases qs with
    | nil => rw [List.append_nil] at hrow; exact ⟨ps, hrow, hp⟩
    | cons _ _ => exact hq.elim
   have HE := Lib.hid hE
   clear hE
   go_wp2_with fail
   go_ret
   exact ⟨ad', cap', rfl, HE.out, HBW.out⟩
theorem EOwn.kept {w w' : World} {B : Nat} {v : Value} {l : List En} (h : EOwn w B v l) (hk : ∀ j, B ≤ j → j < w.heap.size → w'.heap[j]? = w.heap[j]?) : EOwn w' B v l := by
 obtain ⟨ps, h, hf⟩ := h
 exact ⟨ps, row_kept h (fun g hg => hk g (h.lt g hg).1 (h.lt g hg).2), hf.map (fun _ _ hv => hv.kept (fun g hg => hk g (hv.lt hg).1 (hv.lt hg).2))⟩
theorem MOwn.kept {w w' : World} {B : Nat} {v : Value} {l : List Me} (h : MOwn w B v l) (hk : ∀ j, B ≤ j → j < w.heap.size → w'.heap[j]? = w.heap[j]?) : MOwn w' B v l :=
 row_kept h (fun g hg => hk g (World.ownsRow.lt h g hg).1 (World.ownsRow.lt h g hg).2)
def BAns (s : Bk) (w : World) (e : Ending) (w' : World) : Prop := ∃ ad cap ad' cap', e = .returned (bagg s (.slice ad s.l.length cap) (.slice ad' s.ms.length cap')) ∧ EOwn w' w.heap.size (.slice ad s.l.length cap) s.l ∧ MOwn w' w.heap.size (.slice ad' s.ms.length cap') s.ms ∧ Below w.heap.size w w'
theorem BC.setU {w : World} {b : Nat} {s : Bk} {u v : Value} (h : BC w b s u v) (u' : Value) : BC (w.setCell ⟨b, 1, none⟩ u') b s u' v := heap_setCell_same w b 1 _ _ u' h
theorem BC.setV {w : World} {b : Nat} {s : Bk} {u v : Value} (h : BC w b s u v) (v' : Value) : BC (w.setCell ⟨b, 2, none⟩ v') b s u v' := heap_setCell_same w b 2 _ _ v' h
def bstore (w : World) (b : Nat) (s' : Bk) (u' v' : Value) : World := (((((((w.setCell ⟨b, 0, none⟩ (.int .i64 s'.seq)).setCell ⟨b, 1, none⟩ u').setCell ⟨b, 2, none⟩ v').setCell ⟨b, 3, none⟩ (.int .i64 s'.l1)).setCell ⟨b, 4, none⟩ (.int .i64 s'.l2)).setCell ⟨b, 5, none⟩ (.int .i64 s'.l3)).setCell ⟨b, 6, none⟩ (.int .i64 s'.l4)).setCell ⟨b, 7, none⟩ (.int .i64 s'.l5)
theorem BC.store {w : World} {b : Nat} {s s' : Bk} {u v u' v' : Value} (h : BC w b s u v) : BC (bstore w b s' u' v') b s' u' v' := by
 have h0 := heap_setCell_same w b 0 _ _ (.int .i64 s'.seq) h
 have h1 := heap_setCell_same _ b 1 _ _ u' h0
 have h2 := heap_setCell_same _ b 2 _ _ v' h1
 have h3 := heap_setCell_same _ b 3 _ _ (.int .i64 s'.l1) h2
 have h4 := heap_setCell_same _ b 4 _ _ (.int .i64 s'.l2) h3
 have h5 := heap_setCell_same _ b 5 _ _ (.int .i64 s'.l3) h4
 have h6 := heap_setCell_same _ b 6 _ _ (.int .i64 s'.l4) h5
 have h7 := heap_setCell_same _ b 7 _ _ (.int .i64 s'.l5) h6
 unfold BC bstore
 rw [h7]
 simp [bcells]
theorem bstore_heap (w : World) (b : Nat) (s' : Bk) (u' v' : Value) {j : Nat} (h : j ≠ b) : (bstore w b s' u' v').heap[j]? = w.heap[j]? := by
 unfold bstore
 rw [Below.heap_setCell _ _ _ _ h, Below.heap_setCell _ _ _ _ h, Below.heap_setCell _ _ _ _ h, Below.heap_setCell _ _ _ _ h, Below.heap_setCell _ _ _ _ h, Below.heap_setCell _ _ _ _ h, Below.heap_setCell _ _ _ _ h, Below.heap_setCell _ _ _ _ h]
theorem bstore_below {B b : Nat} {w0 w : World} (s' : Bk) (u' v' : Value) (hB : B ≤ b) (h : Below B w0 w) : Below B w0 (bstore w b s' u' v') :=
 (((((((h.setCell (p := ⟨b, 0, none⟩) hB _).setCell (p := ⟨b, 1, none⟩) hB _).setCell (p := ⟨b, 2, none⟩) hB _).setCell (p := ⟨b, 3, none⟩) hB _).setCell (p := ⟨b, 4, none⟩) hB _).setCell (p := ⟨b, 5, none⟩) hB _).setCell (p := ⟨b, 6, none⟩) hB _).setCell (p := ⟨b, 7, none⟩) hB _
def Bk.zero : Bk := ⟨0, [], [], 0, 0, 0, 0, 0⟩
theorem bcopied_p (s : Bk) (u v : Value) (w : World) (h : BAt w s u v) :
  Calls Tryz.prog 30 #[bagg s u v] w (BAns s w) := by
 obtain ⟨ad, cap, rfl, _⟩ := h.es.shape
 obtain ⟨ad', cap', rfl, _⟩ := h.ms.shape
 have HE := Lib.hid (fun W (hW : Below w.heap.size w W) => copiedEntries_p _ s.l W (h.es.below hW) h.short h.shortV)
 have HM := Lib.hid (fun W (hW : Below w.heap.size w W) => mclone_p _ s.ms W (h.ms.below hW) h.shortM)
 have h1 : BC ((w.alloc (.cells (bcells s (.slice ad s.l.length cap) (.slice ad' s.ms.length cap')) 27)).alloc (.cells (bcells Bk.zero (.slice none 0 0) (.slice none 0 0)) 27)) w.heap.size s (.slice ad s.l.length cap) (.slice ad' s.ms.length cap') := (BC.new w s _ _).below ((Below.refl _ _).alloc (Nat.le_refl _) _)
 have h2 : BC ((w.alloc (.cells (bcells s (.slice ad s.l.length cap) (.slice ad' s.ms.length cap')) 27)).alloc (.cells (bcells Bk.zero (.slice none 0 0) (.slice none 0 0)) 27)) (w.heap.size + 1) Bk.zero (.slice none 0 0) (.slice none 0 0) := by
  have := BC.new (w.alloc (.cells (bcells s (.slice ad s.l.length cap) (.slice ad' s.ms.length cap')) 27)) Bk.zero (.slice none 0 0) (.slice none 0 0)
  simpa using this
 have HB : Hid (Below w.heap.size w ((w.alloc (.cells (bcells s (.slice ad s.l.length cap) (.slice ad' s.ms.length cap')) 27)).alloc (.cells (bcells Bk.zero (.slice none 0 0) (.slice none 0 0)) 27))) := Lib.hid (((Below.refl _ w).alloc (Nat.le_refl _) _).alloc (by simp) _)
 clear h
 have H1 := Lib.hid h1
 have H2 := Lib.hid h2
 have hs : w.heap.size + 2 ≤ ((w.alloc (.cells (bcells s (.slice ad s.l.length cap) (.slice ad' s.ms.length cap')) 27)).alloc (.cells (bcells Bk.zero (.slice none 0 0) (.slice none 0 0)) 27)).heap.size := by simp
 clear h1 h2
 unfold BAns bagg
 unfold bcells Bk.zero at *
 dsimp only at *
 go_enter Tryz.func30, Tryz.ntmps30
 go_wp2_with fail
 generalize (w.alloc (.cells #[.int .i64 s.seq, .slice ad s.l.length cap, .slice ad' s.ms.length cap', .int .i64 s.l1, .int .i64 s.l2, .int .i64 s.l3, .int .i64 s.l4, .int .i64 s.l5] 27)).alloc (.cells #[.int .i64 0, .slice none 0 0, .slice none 0 0, .int .i64 0, .int .i64 0, .int .i64 0, .int .i64 0, .int .i64 0] 27) = W at *
 obtain ⟨q0, q1, q2, q3, q4, q5, q6, q7⟩ := H1.out.cells
 have f1 := H1.out.free 1
 have f2 := H1.out.free 2
 go_region_with (first | (go_at_call 63; refine (HE.out _ HB.out.drew).mono ?_; rintro e w1 ⟨a1, c1, rfl, ho1, hb1⟩; have k1 := H1.out.below ((Below.refl _ W).drew.trans hb1); obtain ⟨x0, x1, x2, x3, x4, x5, x6, x7⟩ := k1.cells; have y1 := k1.free 1; have y2 := k1.free 2) | (go_at_call 64; refine (HM.out _ (HB.out.drew.trans (hb1.mono HB.out.size))).mono ?_; rintro e w2 ⟨a2, c2, rfl, ho2, hb2⟩; have k2 := k1.below hb2; obtain ⟨z0, z1, z2, z3, z4, z5, z6, z7⟩ := k2.cells; have v1 := k2.free 1; have v2 := k2.free 2))
 all_goals
  have hk := (k2.setU (.slice a1 s.l.length c1)).setV (.slice a2 s.ms.length c2)
  have hWs : W.drew.heap.size = W.heap.size := rfl
  have hw1 := hb1.size
  have hw2 := hb2.size
  have hne : ¬ w.heap.size + 1 = w.heap.size := by omega
  have hr2 : BC ((w2.setCell ⟨w.heap.size, 1, none⟩ (.slice a1 s.l.length c1)).setCell ⟨w.heap.size, 2, none⟩ (.slice a2 s.ms.length c2)) (w.heap.size + 1) Bk.zero (.slice none 0 0) (.slice none 0 0) := by
   unfold BC
   rw [Below.heap_setCell _ _ _ _ hne, Below.heap_setCell _ _ _ _ hne]
   exact (BC.below (s := Bk.zero) H2.out ((Below.refl _ W).drew.trans hb1)).below hb2
  have hst := BC.store (s' := s) (u' := .slice a1 s.l.length c1) (v' := .slice a2 s.ms.length c2) hr2
  have HO := Lib.hid (show EOwn (bstore ((w2.setCell ⟨w.heap.size, 1, none⟩ (.slice a1 s.l.length c1)).setCell ⟨w.heap.size, 2, none⟩ (.slice a2 s.ms.length c2)) (w.heap.size + 1) s (.slice a1 s.l.length c1) (.slice a2 s.ms.length c2)) w.heap.size (.slice a1 s.l.length c1) s.l ∧ MOwn (bstore ((w2.setCell ⟨w.heap.size, 1, none⟩ (.slice a1 s.l.length c1)).setCell ⟨w.heap.size, 2, none⟩ (.slice a2 s.ms.length c2)) (w.heap.size + 1) s (.slice a1 s.l.length c1) (.slice a2 s.ms.length c2)) w.heap.size (.slice a2 s.ms.length c2) s.ms ∧ Below w.heap.size w (bstore ((w2.setCell ⟨w.heap.size, 1, none⟩ (.slice a1 s.l.length c1)).setCell ⟨w.heap.size, 2, none⟩ (.slice a2 s.ms.length c2)) (w.heap.size + 1) s (.slice a1 s.l.length c1) (.slice a2 s.ms.length c2)) from by
   have hkeep : ∀ j, w.heap.size + 2 ≤ j → j < w2.heap.size → (bstore ((w2.setCell ⟨w.heap.size, 1, none⟩ (.slice a1 s.l.length c1)).setCell ⟨w.heap.size, 2, none⟩ (.slice a2 s.ms.length c2)) (w.heap.size + 1) s (.slice a1 s.l.length c1) (.slice a2 s.ms.length c2)).heap[j]? = w2.heap[j]? := fun j hj _ => by
    rw [bstore_heap _ _ _ _ _ (by omega), Below.heap_setCell _ _ _ _ (show j ≠ w.heap.size by omega), Below.heap_setCell _ _ _ _ (show j ≠ w.heap.size by omega)]
   refine ⟨(((ho1.below hb2).mono (by omega)).kept hkeep).mono (by omega), ((ho2.mono (by omega)).kept hkeep).mono (by omega), ?_⟩
   have hB2 : Below w.heap.size w w2 := (HB.out.drew.trans (hb1.mono (by omega))).trans (hb2.mono (by omega))
   exact bstore_below s _ _ (by omega) ((hB2.setCell (p := ⟨w.heap.size, 1, none⟩) (by simp) _).setCell (p := ⟨w.heap.size, 2, none⟩) (by simp) _))
  obtain ⟨p0, p1, p2, p3, p4, p5, p6, p7⟩ := hk.cells
  obtain ⟨r0, r1, r2, r3, r4, r5, r6, r7⟩ := hr2.cells
  have g0 := hr2.free 0
  have g1 := hr2.free 1
  have g2 := hr2.free 2
  have g3 := hr2.free 3
  have g4 := hr2.free 4
  have g5 := hr2.free 5
  have g6 := hr2.free 6
  have g7 := hr2.free 7
  have HS := Lib.hid hst
  clear hk hr2 hst k2 z0 z1 z2 z3 z4 z5 z6 z7 v1 v2 k1 x0 x1 x2 x3 x4 x5 x6 x7 y1 y2 ho1 ho2 hb1 hb2 q0 q1 q2 q3 q4 q5 q6 q7 f1 f2
  generalize (w2.setCell ⟨w.heap.size, 1, none⟩ (.slice a1 s.l.length c1)).setCell ⟨w.heap.size, 2, none⟩ (.slice a2 s.ms.length c2) = W3 at *
  go_wp2_with fail
  obtain ⟨t0, t1, t2, t3, t4, t5, t6, t7⟩ := HS.out.cells
  unfold bstore at t0 t1 t2 t3 t4 t5 t6 t7
  exact bodyPost_ret (v := .agg #[.int .i64 s.seq, .slice a1 s.l.length c1, .slice a2 s.ms.length c2, .int .i64 s.l1, .int .i64 s.l2, .int .i64 s.l3, .int .i64 s.l4, .int .i64 s.l5]) (by simp [results, Tryz.results30, go_sem, t0, t1, t2, t3, t4, t5, t6, t7]) rfl ⟨a1, c1, a2, c2, rfl, HO.out⟩
end Go.Proofs.YtlpgphiccjkenaaGreatDoor
namespace Go.Proofs.YtlpgphiccjkenaaGreatDoor
open Go.RowKit
structure SO (w : World) (B b : Nat) (s : Bk) (u v : Value) : Prop where
 bc : BC w b s u v
 es : EOwn w B u s.l
 ms : MOwn w B v s.ms
 lo : B ≤ b
theorem SO.below {w w' : World} {B b : Nat} {s : Bk} {u v : Value} (h : SO w B b s u v) (hb : Below w.heap.size w w') : SO w' B b s u v := ⟨h.bc.below hb, h.es.below hb, h.ms.below hb, h.lo⟩
theorem cell_at {w w' : World} {g i : Nat} (hb : Below w.heap.size w w') (hg : g < w.heap.size) : w'.cell? ⟨g, i, none⟩ = w.cell? ⟨g, i, none⟩ := World.cell?_of_block (a := ⟨g, i, none⟩) (hb.block g hg)
structure AddW (W W2 : World) (B X : Nat) (key : ByteArray) (z : Value) (l : List Ve) : Prop where
 bl : Below W.heap.size W W2
 ec : EC W2 X key z
 own : VOwn W2 B z l
 ge : W.heap.size ≤ X
theorem AddW.late {W w1 : World} {B : Nat} {key : ByteArray} {a : Option Addr} {n c : Nat} {l : List Ve} (hb : Below W.heap.size W w1) (ho : VOwn w1 W.heap.size (.slice a n c) l) (hB : B ≤ W.heap.size) : AddW W (w1.alloc (.cells #[.string key, .slice a n c] 45)) B w1.heap.size key (.slice a n c) l :=
 ⟨hb.alloc hb.size _, EC.new w1 key a n c _, (ho.mono hB).below ((Below.refl _ _).alloc (Nat.le_refl _) _), hb.size⟩
theorem AddW.early {W w1 : World} {B : Nat} {key k0 : ByteArray} {z0 : Value} {a : Option Addr} {n c : Nat} {l : List Ve} (hb : Below W.heap.size W w1) (ho : VOwn w1 (W.heap.size + 1) (.slice a n c) l) (hB : B ≤ W.heap.size) (he : EC w1 W.heap.size k0 z0) : AddW W ((w1.setCell ⟨W.heap.size, 0, none⟩ (.string key)).setCell ⟨W.heap.size, 1, none⟩ (.slice a n c)) B W.heap.size key (.slice a n c) l := by
 refine ⟨(hb.setCell (p := ⟨W.heap.size, 0, none⟩) (Nat.le_refl _) _).setCell (p := ⟨W.heap.size, 1, none⟩) (Nat.le_refl _) _, ?_, (ho.mono (by omega)).kept (fun g hg => ?_), Nat.le_refl _⟩
 ·obtain ⟨⟨h0, h1⟩, f0, f1⟩ := he
  refine ⟨⟨?_, ?_⟩, ?_, ?_⟩ <;> go_simp
 ·have := (ho.lt hg).1
  have hne : ¬ g = W.heap.size := by omega
  rw [Below.heap_setCell _ _ _ _ hne, Below.heap_setCell _ _ _ _ hne]
theorem row_off {w : World} {B k n j : Nat} {T T0 : TypeId} {v : Value} {cs : List Value} {cur : Array Value} (h : w.ownsRow B T k v n cs) (hj : w.heap[j]? = some (.cells cur T0 (0, 0))) (hT : T0 ≠ T) : v.ownBlock ≠ some j := by
 intro hg
 rcases h.2 with ⟨rfl, _⟩ | ⟨g1, _, _, rfl, _, hh, _⟩
 ·cases hg
 ·cases hg
  rw [hh] at hj
  simp only [Option.some.injEq, Obj.cells.injEq] at hj
  exact hT hj.2.1.symm
theorem EOwn.off {w : World} {B j i : Nat} {v x : Value} {l : List En} {cur : Array Value} {T0 : TypeId} (h : EOwn w B v l) (hj : w.heap[j]? = some (.cells cur T0 (0, 0))) (h1 : T0 ≠ 45) (h2 : T0 ≠ 55) : EOwn (w.setCell ⟨j, i, none⟩ x) B v l := by
 obtain ⟨ps, hr, hf⟩ := h
 refine ⟨ps, row_kept hr (fun g hg => ?_), hf.map (fun z m hz => hz.kept (fun g hg => ?_))⟩
 ·rw [Below.heap_setCell _ _ _ _ (show ¬ g = j from fun e => row_off hr hj h1 (by rw [hg, e]))]
 ·rw [Below.heap_setCell _ _ _ _ (show ¬ g = j from fun e => row_off hz hj h2 (by rw [hg, e]))]
theorem MOwn.off {w : World} {B j i : Nat} {v x : Value} {l : List Me} {cur : Array Value} {T0 : TypeId} (h : MOwn w B v l) (hj : w.heap[j]? = some (.cells cur T0 (0, 0))) (h1 : T0 ≠ 76) : MOwn (w.setCell ⟨j, i, none⟩ x) B v l :=
 row_kept h (fun g hg => by rw [Below.heap_setCell _ _ _ _ (show ¬ g = j from fun e => row_off h hj h1 (by rw [hg, e]))])
theorem two_keep {w : World} {X j i : Nat} {p q : Value} (h : ¬ j = X) : ((w.setCell ⟨X, 0, none⟩ p).setCell ⟨X, 1, none⟩ q).cell? ⟨j, i, none⟩ = w.cell? ⟨j, i, none⟩ :=
 World.cell?_of_block (a := ⟨j, i, none⟩) (by rw [Below.heap_setCell _ _ _ _ h, Below.heap_setCell _ _ _ _ h])
theorem badd_p (s : Bk) (u v : Value) (B b k : Nat) (e : En) (x : Ve) (w : World) (h : SO w B b s u v) (he : s.l[k]? = some e) (hv : e.vs.length ≤ 1000000) :
  Calls Tryz.prog 67 #[.pointer (some ⟨b, 0, none⟩), .int .i64 k, .agg #[.int .i64 x.ver, .bool x.gone, .string x.body]] w fun en w' => en = .returned (.agg #[.int .i64 (addK s.l k e x).2.err, .int .i64 (addK s.l k e x).2.ver]) ∧ SO w' B b { s with l := (addK s.l k e x).1 } u v ∧ Below B w w' ∧
   (∀ j, j < w.heap.size → j ≠ b → u.ownBlock ≠ some j → w'.heap[j]? = w.heap[j]?) := by
 obtain ⟨R, hR⟩ : ∃ R, addK s.l k e x = R := ⟨_, rfl⟩
 rw [hR]
 have hkl : k < s.l.length := (List.getElem?_eq_some_iff.1 he).1
 have hkz : (k : Int) < (s.l.length : Int) := by omega
 obtain ⟨ad, cap, rfl, _⟩ := h.es.at.shape
 obtain ⟨ad', cap', rfl, _⟩ := h.ms.at.shape
 have hb0 : Below w.heap.size w ((w.alloc (.cells #[.int .i64 x.ver, .bool x.gone, .string x.body] 55)).alloc (.cells #[.int .i64 0, .int .i64 0] 30)) := ((Below.refl _ w).alloc (Nat.le_refl _) _).alloc (by simp) _
 have HS := Lib.hid (h.below hb0)
 have HX := Lib.hid ((VC3.new w x 55).below ((Below.refl _ _).alloc (Nat.le_refl _) (.cells #[.int .i64 0, .int .i64 0] 30)))
 have HZ : Hid (RC ((w.alloc (.cells #[.int .i64 x.ver, .bool x.gone, .string x.body] 55)).alloc (.cells #[.int .i64 0, .int .i64 0] 30)) (w.heap.size + 1) ⟨0, 0⟩) := Lib.hid (by
  have := RC.new (w.alloc (.cells #[.int .i64 x.ver, .bool x.gone, .string x.body] 55)) ⟨0, 0⟩
  simpa using this)
 have HB := Lib.hid hb0
 have HF5 := Lib.hid (fun W => failed_p 5 W)
 have HT := Lib.hid (fun a m W hW => add_p e.key (.slice a e.vs.length m) e.vs x W hW hv)
 have HR := Lib.hid hR
 have HE := Lib.hid he
 have hbw := h.bc.lt
 have H0 := Lib.hid h
 clear h hb0 hR he
 go_enter Tryz.func67, Tryz.ntmps67
 go_wp2_with fail
 generalize (w.alloc (.cells #[.int .i64 x.ver, .bool x.gone, .string x.body] 55)).alloc (.cells #[.int .i64 0, .int .i64 0] 30) = W at *
 obtain ⟨_, q1, _, _, _, _, _, _⟩ := HS.out.bc.cells
 obtain ⟨g, o, a, m, rfl, d0, d1, hg, hvs⟩ := HS.out.es.at.get HE.out
 obtain ⟨⟨c0, c1, c2⟩, _⟩ := HX.out
 have hne : ¬ b = W.heap.size := by have := HS.out.bc.lt; omega
 have hne2 : ¬ g = W.heap.size := by omega
 have hne3 : ¬ w.heap.size = W.heap.size := by have := HX.out.lt; omega
 have HVS := Lib.hid hvs
 clear hvs
 unfold EntAns at HT
 go_region_held3 (fun W' => W'.cell? ⟨b, 1, none⟩ = some (.slice (some ⟨g, o, none⟩) s.l.length cap) ∧ W'.cell? ⟨g, o + k * 2, none⟩ = some (.string e.key) ∧ W'.cell? ⟨g, o + k * 2 + 1, none⟩ = some (.slice a e.vs.length m) ∧ W'.cell? ⟨w.heap.size, 0, none⟩ = some (.int .i64 x.ver) ∧ W'.cell? ⟨w.heap.size, 1, none⟩ = some (.bool x.gone) ∧ W'.cell? ⟨w.heap.size, 2, none⟩ = some (.string x.body)) (first | exact ⟨y0, y1, y2, y3, y4, y5⟩ | exact ⟨(two_keep hne).trans y0, (two_keep hne2).trans y1, (two_keep hne2).trans y2, (two_keep hne3).trans y3, (two_keep hne3).trans y4, (two_keep hne3).trans y5⟩ | go_keep) (first | (go_at_call 123; refine (HT.out _ _ _ (HVS.out.below (Below.refl _ W).drew)).mono ?_; rintro _ w1 ⟨a2, m2, rfl, ho, hb1⟩; have hbb := (Below.refl _ W).drew.trans hb1; have y0 := (HS.out.below hbb).bc.cells.2.1; have y1 := (cell_at hbb hg).trans d0; have y2 := (cell_at hbb hg).trans d1; obtain ⟨⟨y3, y4, y5⟩, _⟩ := HX.out.below hbb) | (go_at_call 123; refine (HT.out _ _ _ (HVS.out.below ((Below.refl _ W).drew.alloc (Nat.le_refl _) _))).mono ?_; rintro _ w1 ⟨a2, m2, rfl, ho, hb1⟩; have hbb := ((Below.refl _ W).drew.alloc (Nat.le_refl _) (.cells #[.string ⟨#[]⟩, .slice none 0 0] 45)).trans (hb1.mono (by simp)); have y0 := (HS.out.below hbb).bc.cells.2.1; have y1 := (cell_at hbb hg).trans d0; have y2 := (cell_at hbb hg).trans d1; obtain ⟨⟨y3, y4, y5⟩, _⟩ := HX.out.below hbb; obtain ⟨⟨p0, p1⟩, z0, z1⟩ := (show EC w1 W.heap.size ⟨#[]⟩ (.slice none 0 0) from (EC.new W.drew ⟨#[]⟩ none 0 0 45).below hb1)))
 all_goals
  have hBW : B ≤ W.heap.size := by have := HS.out.lo; have := HS.out.bc.lt; omega
  first
  | (have HW := Lib.hid (AddW.early (key := e.key) hbb (ho.mono (by simp)) hBW ⟨⟨p0, p1⟩, z0, z1⟩)
     generalize (w1.setCell ⟨W.heap.size, 0, none⟩ (.string e.key)).setCell ⟨W.heap.size, 1, none⟩ (.slice a2 (addE e.vs x).1.length m2) = W2 at HW ⊢
     clear p0 p1 z0 z1)
  | (have HW := Lib.hid (AddW.late (W := W) (key := e.key) hbb ho hBW)
     generalize w1.alloc (.cells #[.string e.key, .slice a2 (addE e.vs x).1.length m2] 45) = W2 at HW ⊢)
 all_goals
  have HS2 := Lib.hid (HS.out.below HW.out.bl)
  have HX2 := Lib.hid (HX.out.below HW.out.bl)
  have HZ2 := Lib.hid (HZ.out.below HW.out.bl)
  have HB2 := Lib.hid (HB.out.trans (HW.out.bl.mono HB.out.size))
  clear ho hb1 hbb y0 y1 y2 y3 y4 y5 q1 d0 d1 c0 c1 c2 hne hne2 hne3
  obtain ⟨_, q1, _, _, _, _, _, _⟩ := HS2.out.bc.cells
  obtain ⟨⟨e0, e1⟩, _⟩ := HW.out.ec
  obtain ⟨⟨c0, c1, c2⟩, _⟩ := HX2.out
  obtain ⟨r0, r1, rf0, rf1⟩ := HZ2.out.facts
  dsimp only at r0 r1
  cases hq : (addE e.vs x).2 with
  | false =>
   have hR := HR.out
   unfold addK at hR
   rw [hq] at hR
   obtain rfl : R = (s.l, ⟨5, 0⟩) := hR.symm
   go_wp2_with fail
   refine (HF5.out _).mono ?_
   rintro _ w3 ⟨rfl, hb3⟩
   have HZ3 := Lib.hid (HZ2.out.below hb3)
   obtain ⟨v0, v1, vf0, vf1⟩ := HZ3.out.facts
   dsimp only at v0 v1
   have hB3 := ((HB2.out.trans (hb3.mono HB2.out.size)).setCell (p := ⟨w.heap.size + 1, 0, none⟩) (by simp) (.int .i64 5)).setCell (p := ⟨w.heap.size + 1, 1, none⟩) (by simp) (.int .i64 0)
   have HF := Lib.hid (And.intro hB3 (HZ3.out.set ⟨5, 0⟩))
   clear hb3 hB3
   go_wp2_with fail
   obtain ⟨t0, t1, _⟩ := HF.out.2.facts
   dsimp only at t0 t1
   exact bodyPost_ret (v := .agg #[.int .i64 5, .int .i64 0]) (by simp [results, Tryz.results67, go_sem, t0, t1]) rfl ⟨rfl, H0.out.below HF.out.1, HF.out.1.mono (by have := H0.out.lo; omega), fun j hj _ _ => HF.out.1.block j hj⟩
  | true =>
   have hR := HR.out
   unfold addK at hR
   rw [hq] at hR
   obtain rfl : R = (s.l.set k ⟨e.key, (addE e.vs x).1⟩, ⟨0, x.ver⟩) := hR.symm
   obtain ⟨hfr, hBg, _⟩ : (∀ j, W2.frozen? ⟨g, j, none⟩ = false) ∧ B ≤ g ∧ g < W2.heap.size := by
    obtain ⟨ps, hrow, _⟩ := HS2.out.es
    obtain rfl : o = 0 := by
     rcases hrow.2 with ⟨h2, _⟩ | ⟨_, _, _, h2, _⟩
     ·cases h2
     ·simp only [Value.slice.injEq, Option.some.injEq, Addr.mk.injEq] at h2
      exact h2.1.2.1
    exact row_free hrow
   obtain rfl : o = 0 := by
    obtain ⟨ps, hrow, _⟩ := HS2.out.es
    rcases hrow.2 with ⟨h2, _⟩ | ⟨_, _, _, h2, _⟩
    ·cases h2
    ·simp only [Value.slice.injEq, Option.some.injEq, Addr.mk.injEq] at h2
     exact h2.1.2.1
   have f0 := hfr (k * 2)
   have f1 := hfr (k * 2 + 1)
   obtain ⟨g', o', a', m', hgo, i0, i1, _, _⟩ := HS2.out.es.at.get HE.out
   simp only [Option.some.injEq, Addr.mk.injEq] at hgo
   obtain ⟨rfl, rfl, _⟩ := hgo
   rw [Nat.zero_add] at i0 i1
   have hgw := (H0.out.es.lt (g := g) rfl).2
   have n0 : ¬ w.heap.size = g := by omega
   have n1 : ¬ g = w.heap.size := by omega
   have n2 : ¬ w.heap.size + 1 = g := by omega
   have n3 : ¬ g = w.heap.size + 1 := by omega
   have hbg : ¬ b = g := fun e => by
    obtain ⟨ps, hrow, _⟩ := HS2.out.es
    subst e
    exact row_off hrow HS2.out.bc (by decide) rfl
   have hset := EOwn.set (k := k) HS2.out.es (g := g) rfl HE.out HW.out.own
   have hmsk : MOwn ((W2.setCell ⟨g, k * 2, none⟩ (.string e.key)).setCell ⟨g, k * 2 + 1, none⟩ (.slice a2 (addE e.vs x).1.length m2)) B (.slice ad' s.ms.length cap') s.ms := row_kept HS2.out.ms (fun j hj => by
    have hne : ¬ j = g := fun e => by
     obtain ⟨ps, hrow, _⟩ := HS2.out.es
     subst e
     exact rows_apart hrow HS2.out.ms (by decide) rfl hj
    rw [Below.heap_setCell _ _ _ _ hne, Below.heap_setCell _ _ _ _ hne])
   have hbc : BC ((W2.setCell ⟨g, k * 2, none⟩ (.string e.key)).setCell ⟨g, k * 2 + 1, none⟩ (.slice a2 (addE e.vs x).1.length m2)) b s (.slice (some ⟨g, 0, none⟩) s.l.length cap) (.slice ad' s.ms.length cap') := by
    unfold BC
    rw [Below.heap_setCell _ _ _ _ hbg, Below.heap_setCell _ _ _ _ hbg]
    exact HS2.out.bc
   have hrc : RC ((W2.setCell ⟨g, k * 2, none⟩ (.string e.key)).setCell ⟨g, k * 2 + 1, none⟩ (.slice a2 (addE e.vs x).1.length m2)) (w.heap.size + 1) ⟨0, 0⟩ := by
    unfold RC
    rw [Below.heap_setCell _ _ _ _ n2, Below.heap_setCell _ _ _ _ n2]
    exact HZ2.out
   have hblk : ∀ j, j < w.heap.size → ¬ j = g → ((W2.setCell ⟨g, k * 2, none⟩ (.string e.key)).setCell ⟨g, k * 2 + 1, none⟩ (.slice a2 (addE e.vs x).1.length m2)).heap[j]? = w.heap[j]? := fun j hj hne => by
    rw [Below.heap_setCell _ _ _ _ hne, Below.heap_setCell _ _ _ _ hne]
    exact HB2.out.block j hj
   have hbB := ((HB2.out.mono (show B ≤ w.heap.size by have := H0.out.lo; omega)).setCell (p := ⟨g, k * 2, none⟩) hBg (.string e.key)).setCell (p := ⟨g, k * 2 + 1, none⟩) hBg (.slice a2 (addE e.vs x).1.length m2)
   have HK := Lib.hid (And.intro hset (And.intro hmsk (And.intro hbc (And.intro hrc (And.intro hblk hbB)))))
   clear hset hmsk hbc hrc hblk hbB
   go_wp2_with fail
   go_region
   all_goals
    go_wp2_with fail
    obtain ⟨hset, hmsk, hbc, hrc, hblk, hbB⟩ := HK.out
    have hr1 := heap_setCell_same _ (w.heap.size + 1) 0 _ _ (.int .i64 0) hrc
    have hr2 := hrc.set ⟨0, x.ver⟩
    obtain ⟨t0, t1, _⟩ := hr2.facts
    dsimp only at t0 t1
    have nb : ¬ b = w.heap.size + 1 := by omega
    have hlo := H0.out.lo
    refine bodyPost_ret (v := .agg #[.int .i64 0, .int .i64 x.ver]) (by simp [results, Tryz.results67, go_sem, t0, t1]) rfl ⟨rfl, ⟨?_, ?_, ?_, hlo⟩, ?_, fun j hj hjb hjo => ?_⟩
    ·have h1 : BC ((((W2.setCell ⟨g, k * 2, none⟩ (.string e.key)).setCell ⟨g, k * 2 + 1, none⟩ (.slice a2 (addE e.vs x).1.length m2)).setCell ⟨w.heap.size + 1, 0, none⟩ (.int .i64 0)).setCell ⟨w.heap.size + 1, 1, none⟩ (.int .i64 x.ver)) b s (.slice (some ⟨g, 0, none⟩) s.l.length cap) (.slice ad' s.ms.length cap') := by
      unfold BC
      rw [Below.heap_setCell _ _ _ _ nb, Below.heap_setCell _ _ _ _ nb]
      exact hbc
     exact h1
    ·exact ((hset.off hrc (by decide) (by decide)).off hr1 (by decide) (by decide)).kept (fun _ _ _ => rfl)
    ·exact ((hmsk.off hrc (by decide)).off hr1 (by decide)).kept (fun _ _ _ => rfl)
    ·exact ((hbB.setCell (p := ⟨w.heap.size + 1, 0, none⟩) (by show B ≤ w.heap.size + 1; omega) _).setCell (p := ⟨w.heap.size + 1, 1, none⟩) (by show B ≤ w.heap.size + 1; omega) _).drew
    ·have hjg : ¬ j = g := fun e => hjo (by rw [e]; rfl)
     have nj : ¬ j = w.heap.size + 1 := by omega
     show ((((W2.setCell ⟨g, k * 2, none⟩ (.string e.key)).setCell ⟨g, k * 2 + 1, none⟩ (.slice a2 (addE e.vs x).1.length m2)).setCell ⟨w.heap.size + 1, 0, none⟩ (.int .i64 0)).setCell ⟨w.heap.size + 1, 1, none⟩ (.int .i64 x.ver)).heap[j]? = _
     rw [Below.heap_setCell _ _ _ _ nj, Below.heap_setCell _ _ _ _ nj]
     exact hblk j hj hjg
end Go.Proofs.YtlpgphiccjkenaaGreatDoor
