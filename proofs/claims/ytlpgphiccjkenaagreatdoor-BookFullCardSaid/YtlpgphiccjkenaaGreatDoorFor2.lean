/-
 Contracts of the program, and what they rest on.
-/
import Derived.Test.YtlpgphiccjkenaaGreatDoorFor
set_option maxRecDepth 100000
set_option maxHeartbeats 16000000
namespace Go.Proofs.YtlpgphiccjkenaaGreatDoor
open Go.RowKit
theorem mcells_set : ∀ (l : List Me) (k : Nat) (m : Me), k < l.length → (((mcells l).set (k * 3) (.int .i64 m.req)).set (k * 3 + 1) (.int .i64 m.res.err)).set (k * 3 + 2) (.int .i64 m.res.ver) = mcells (l.set k m)
 | [], k, m, h => absurd h (Nat.not_lt_zero _)
 | x :: r, 0, m, _ => by simp [mcells]
 | x :: r, k + 1, m, h => by
  have ih := mcells_set r k m (by simpa using h)
  have hc : ∀ (a b c : Value) (z : List Value) (n : Nat) (v : Value), (a :: b :: c :: z).set (n + 3) v = a :: b :: c :: z.set n v := fun _ _ _ _ _ _ => rfl
  simp only [mcells, List.set_cons_succ]
  rw [show (k + 1) * 3 = k * 3 + 3 by omega, show k * 3 + 3 + 1 = (k * 3 + 1) + 3 by omega, show k * 3 + 3 + 2 = (k * 3 + 2) + 3 by omega, hc, hc, hc, ih]
theorem MOwn.put {w : World} {B g cap n k : Nat} {l : List Me} (m : Me) (h : MOwn w B (.slice (some ⟨g, 0, none⟩) n cap) l) (hk : k < l.length) :
  MOwn (((w.setCell ⟨g, k * 3, none⟩ (.int .i64 m.req)).setCell ⟨g, k * 3 + 1, none⟩ (.int .i64 m.res.err)).setCell ⟨g, k * 3 + 2, none⟩ (.int .i64 m.res.ver)) B (.slice (some ⟨g, 0, none⟩) n cap) (l.set k m) := by
 have h1 := row_set (x := .int .i64 m.req) (j := k * 3) h (g := g) rfl
 have h2 := row_set (x := .int .i64 m.res.err) (j := k * 3 + 1) h1 (g := g) rfl
 have h3 := row_set (x := .int .i64 m.res.ver) (j := k * 3 + 2) h2 (g := g) rfl
 rw [mcells_set l k m hk] at h3
 unfold MOwn
 rw [List.length_set]
 exact h3
theorem MOwn.front {w : World} {B g cap i : Nat} {l : List Me} (vs : List Value) (h : MOwn w B (.slice (some ⟨g, 0, none⟩) l.length cap) l) (hi : i ≤ l.length) (hv : i * 3 + vs.length ≤ cap * 3) :
  MOwn (w.setCells g (i * 3) vs) B (.slice (some ⟨g, 0, none⟩) i cap) (l.take i) := by
 obtain ⟨h1, h2⟩ := h
 rcases h2 with ⟨h2, _⟩ | ⟨g', cap', cur, hv', hB, hg, hn, hm, hs, ht⟩
 ·cases h2
 ·simp only [Value.slice.injEq, Option.some.injEq, Addr.mk.injEq] at hv'
  obtain ⟨⟨rfl, _⟩, _, rfl⟩ := hv'
  have c1 := heap_setCells vs (i * 3) w cur hg
  have hlen : (l.take i).length = i := by rw [List.length_take]; omega
  unfold MOwn
  rw [hlen]
  refine ⟨by rw [mcells_length, hlen], .inr ⟨g, cap, _, rfl, hB, c1, by omega, hm, by rw [wr_size, hs], ?_⟩⟩
  have hcur : cur.toList.length = cap * 3 := hs
  rw [wr_list _ _ _ (by rw [hs]; exact hv), List.append_assoc, List.take_append_of_le_length (by rw [List.length_take]; omega), List.take_take, Nat.min_self]
  have : cur.toList.take (i * 3) = (cur.toList.take (l.length * 3)).take (i * 3) := by rw [List.take_take, Nat.min_eq_left (by omega)]
  rw [this, ht, mcells_take]
theorem memo_clear (w : World) (g o n : Nat) (hn : 0 < n) (hc : ∀ j, j < n * 3 → (w.cell? ⟨g, o + j, none⟩).isSome = true) (hf : ∀ j, w.frozen? ⟨g, j, none⟩ = false) :
  ∃ vs : List Value, vs.length = n * 3 ∧ ∀ ty c, (Builtin.clear_ #[24] ty #[.slice (some ⟨g, o, none⟩) n c]).run Tryz.prog w = .ok (.tuple #[]) (w.setCells g o vs) := by
 obtain ⟨k, rfl⟩ : ∃ k, n = k + 1 := ⟨n - 1, by omega⟩
 obtain ⟨vs, hvs⟩ : ∃ vs, (Builtin.zeroCells (Value.agg #[.int .i64 0, .int .i64 0, .int .i64 0]).cells (k + 1)).toList = vs := ⟨_, rfl⟩
 have hlen : vs.length = (k + 1) * 3 := by
  rw [← hvs]
  have := size_zeroCells (Value.agg #[.int .i64 0, .int .i64 0, .int .i64 0]).cells (k + 1)
  rw [show (Value.agg #[.int .i64 0, .int .i64 0, .int .i64 0]).cells.size = 3 from rfl] at this
  rw [Array.length_toList]
  exact this
 have hone : ∀ v ∈ vs, v.oneCell' = true := by
  intro v hv
  rw [← hvs] at hv
  unfold Builtin.zeroCells at hv
  simp only [Array.toList_map, List.mem_map] at hv
  obtain ⟨j, _, rfl⟩ := hv
  have h3 : j % 3 < 3 := Nat.mod_lt _ (by decide)
  have : ∀ t, t < 3 → ((Value.agg #[.int .i64 0, .int .i64 0, .int .i64 0]).cells[t]!).oneCell' = true := by decide
  exact this _ h3
 refine ⟨vs, hlen, fun ty c => ?_⟩
 have hst := run_storeCells_cells (P := Tryz.prog) g o vs 0 w (by intro j hj; rw [hlen] at hj; simpa using hc j hj) (by intro j _; simpa using hf _) hone
 simp only [Nat.add_zero] at hst
 simp [Builtin.clear_, run_underlying Tryz.underlying24, hvs, hst]
theorem heap_cell {w w' : World} {b : Nat} (h : w'.heap[b]? = w.heap[b]?) (i : Nat) : w'.cell? ⟨b, i, none⟩ = w.cell? ⟨b, i, none⟩ := by
 unfold World.cell?
 simp only [h]
theorem Caps.kept {w w' : World} {h low : Int} {P Q g : Nat} (c : Caps w h low P Q) (hs : w.heap.size ≤ w'.heap.size) (hk : ∀ x, x < w.heap.size → x ≠ g → w'.heap[x]? = w.heap[x]?) (hP : P ≠ g) (hQ : Q ≠ g) : Caps w' h low P Q :=
 ⟨Nat.lt_of_lt_of_le c.p hs, Nat.lt_of_lt_of_le c.q hs, (heap_cell (hk P c.p hP) 0).trans c.cp, (heap_cell (hk Q c.q hQ) 0).trans c.cq⟩
theorem take_filter_yes {l : List Me} {j : Nat} {x : Me} {q : Me → Bool} (hx : l[j]? = some x) (h : q x = true) : (l.take (j + 1)).filter q = (l.take j).filter q ++ [x] := by
 rw [List.take_add_one, hx, List.filter_append]
 simp [h]
theorem take_filter_no {l : List Me} {j : Nat} {x : Me} {q : Me → Bool} (hx : l[j]? = some x) (h : q x = false) : (l.take (j + 1)).filter q = (l.take j).filter q := by
 rw [List.take_add_one, hx, List.filter_append]
 simp [h]
structure DelRel (w : World) (B g cap : Nat) (l : List Me) (q : Me → Bool) (i j : Nat) (c : List Me) (wr : World) : Prop where
 len : c.length = l.length
 ij : i < j
 jn : j ≤ l.length
 front : c.take i = (l.take j).filter q
 rest : c.drop j = l.drop j
 own : MOwn wr B (.slice (some ⟨g, 0, none⟩) l.length cap) c
 bl : Below B w wr
 kept : ∀ x, x < w.heap.size → x ≠ g → wr.heap[x]? = w.heap[x]?
theorem DelRel.at {w wr : World} {B g cap i j : Nat} {l c : List Me} {q : Me → Bool} (h : DelRel w B g cap l q i j c wr) {x : Me} (hx : l[j]? = some x) : c[j]? = some x := by
 have h1 : (c.drop j)[0]? = (l.drop j)[0]? := by rw [h.rest]
 rw [List.getElem?_drop, List.getElem?_drop, Nat.add_zero] at h1
 rw [h1, hx]
theorem DelRel.below {w wr W : World} {B g cap i j : Nat} {l c : List Me} {q : Me → Bool} (h : DelRel w B g cap l q i j c wr) (hB : B ≤ w.heap.size) (hb : Below wr.heap.size wr W) : DelRel w B g cap l q i j c W :=
 ⟨h.len, h.ij, h.jn, h.front, h.rest, h.own.below hb, h.bl.trans (hb.mono (Nat.le_trans hB h.bl.size)), fun x h1 h2 => (hb.block x (Nat.lt_of_lt_of_le h1 h.bl.size)).trans (h.kept x h1 h2)⟩
theorem DelRel.skip {w wr : World} {B g cap i j : Nat} {l c : List Me} {q : Me → Bool} (h : DelRel w B g cap l q i j c wr) {x : Me} (hx : l[j]? = some x) (hq : q x = false) : DelRel w B g cap l q i (j + 1) c wr := by
 have hj : j < l.length := (List.getElem?_eq_some_iff.1 hx).1
 refine ⟨h.len, by have := h.ij; omega, by omega, by rw [h.front, take_filter_no hx hq], ?_, h.own, h.bl, h.kept⟩
 rw [← List.drop_drop, h.rest, List.drop_drop]
theorem DelRel.keep {w wr : World} {B g cap i j : Nat} {l c : List Me} {q : Me → Bool} (h : DelRel w B g cap l q i j c wr) (hg : B ≤ g) {x : Me} (hx : l[j]? = some x) (hq : q x = true) :
  DelRel w B g cap l q (i + 1) (j + 1) (c.set i x) (((wr.setCell ⟨g, i * 3, none⟩ (.int .i64 x.req)).setCell ⟨g, i * 3 + 1, none⟩ (.int .i64 x.res.err)).setCell ⟨g, i * 3 + 2, none⟩ (.int .i64 x.res.ver)) := by
 have hj : j < l.length := (List.getElem?_eq_some_iff.1 hx).1
 have hij := h.ij
 have hl := h.len
 refine ⟨by rw [List.length_set, hl], by omega, by omega, ?_, ?_, h.own.put x (by omega), ((h.bl.setCell (p := ⟨g, i * 3, none⟩) hg _).setCell (p := ⟨g, i * 3 + 1, none⟩) hg _).setCell (p := ⟨g, i * 3 + 2, none⟩) hg _, fun y h1 h2 => ?_⟩
 ·rw [take_filter_yes hx hq, ← h.front, List.take_add_one, List.getElem?_set_self (by omega), List.take_set_of_le (Nat.le_refl _)]
  rfl
 ·rw [List.drop_set_of_lt (by omega), ← List.drop_drop, h.rest, List.drop_drop]
 ·rw [Below.heap_setCell _ _ _ _ (by simpa using h2), Below.heap_setCell _ _ _ _ (by simpa using h2), Below.heap_setCell _ _ _ _ (by simpa using h2)]
  exact h.kept y h1 h2
theorem filter_all {l : List Me} {q : Me → Bool} (h : ∀ x ∈ l, q x = true) : l.filter q = l := List.filter_eq_self.2 h
theorem DelRel.start {w wr : World} {B g cap k : Nat} {l : List Me} {q : Me → Bool} (hk : k < l.length) (h1 : ∀ x, l[k]? = some x → q x = false) (h0 : ∀ j x, j < k → l[j]? = some x → q x = true) (ho : MOwn wr B (.slice (some ⟨g, 0, none⟩) l.length cap) l) (hb : Below B w wr) (hkp : ∀ x, x < w.heap.size → x ≠ g → wr.heap[x]? = w.heap[x]?) : DelRel w B g cap l q k (k + 1) l wr := by
 refine ⟨rfl, by omega, by omega, ?_, rfl, ho, hb, hkp⟩
 obtain ⟨x, hx⟩ : ∃ x, l[k]? = some x := ⟨_, List.getElem?_eq_getElem hk⟩
 rw [take_filter_no hx (h1 x hx), filter_all]
 intro y hy
 obtain ⟨j, hj, rfl⟩ := List.getElem_of_mem hy
 rw [List.length_take] at hj
 rw [List.getElem_take]
 exact h0 j _ (by omega) (List.getElem?_eq_getElem (by omega))
theorem mdelf_p (v : Value) (l : List Me) (h low : Int) (P Q B : Nat) (w : World) (hm : MOwn w B v l) (hn : l.length ≤ 1000000) (hr : ∀ m ∈ l, -9223372036854775808 ≤ m.req ∧ m.req ≤ 9223372036854775807) (hc : Caps w h low P Q) (hP : v.ownBlock ≠ some P) (hQ : v.ownBlock ≠ some Q) (hB : B ≤ w.heap.size) :
  Calls Tryz.prog 73 #[v, .func (.func 74) #[] #[.pointer (some ⟨P, 0, none⟩), .pointer (some ⟨Q, 0, none⟩)]] w fun e w' => ∃ ad cap, e = .returned (.slice ad (l.filter fun m => !fgone h low m).length cap) ∧ MOwn w' B (.slice ad (l.filter fun m => !fgone h low m).length cap) (l.filter fun m => !fgone h low m) ∧ Below B w w' ∧ ∀ x, x < w.heap.size → v.ownBlock ≠ some x → w'.heap[x]? = w.heap[x]? := by
 have eg : ∀ args w, (callFunc 74 args).run Tryz.prog w = .ok (.enter 74 args) w := enters_of Tryz.func74 (by kernel_rfl) rfl
 have HI := Lib.hid (mindex_p v l h low P Q w hm.at hn hr hc)
 obtain ⟨F, hF⟩ : ∃ F, l.filter (fun m => !fgone h low m) = F := ⟨_, rfl⟩
 rw [hF]
 have HF := Lib.hid hF
 clear hF
 have HO := Lib.hid hm
 have HR := Lib.hid hr
 have HC := Lib.hid hc
 have HPQ := Lib.hid (And.intro hP hQ)
 have HBw := Lib.hid hB
 obtain ⟨ad, cap, rfl⟩ := hm.shape
 clear hm hr hc hP hQ hB
 go_enter Tryz.func73, Tryz.ntmps73
 go_wp2_with fail
 refine HI.out.mono ?_
 rintro _ w1 ⟨⟨r, rfl, hf⟩, hb1⟩
 rcases hf with ⟨rfl, hno⟩ | ⟨k, rfl, hk, hk1, hk0⟩
 ·obtain rfl : F = l := by rw [← HF.out]; exact filter_all (fun x hx => by rw [hno x hx]; rfl)
  have HZ := Lib.hid (And.intro (HO.out.below hb1) (And.intro (hb1.mono HBw.out) hb1.block))
  clear hb1 hno HF
  go_wp2_with fail
  go_ret
  exact ⟨ad, cap, rfl, HZ.out.1, HZ.out.2.1, fun x hx _ => HZ.out.2.2 x hx⟩
 ·have ho := HO.out.below hb1
  obtain ⟨g, hgad, hgB, hgl, hcap, hcm⟩ : ∃ g, ad = some ⟨g, 0, none⟩ ∧ B ≤ g ∧ g < w.heap.size ∧ l.length ≤ cap ∧ cap ≤ maxLen := by
   rcases HO.out.2 with ⟨_, h0⟩ | ⟨g, cap', cur, hv, hBg, hg, h1, h2, _, _⟩
   ·omega
   ·simp only [Value.slice.injEq] at hv
    obtain ⟨rfl, _, rfl⟩ := hv
    exact ⟨g, rfl, hBg, (Array.getElem?_eq_some_iff.1 hg).1, h1, h2⟩
  subst hgad
  have HST : Hid (DelRel w B g cap l (fun m => !fgone h low m) k (k + 1) l w1) := Lib.hid (DelRel.start hk (fun x hx => by rw [hk1 x hx]; rfl) (fun j x hj hx => by rw [hk0 j x hj hx]; rfl) ho (hb1.mono HBw.out) (fun x hx _ => hb1.block x hx))
  have HG := Lib.hid (And.intro hgB hgl)
  have hPg : P ≠ g := fun e => HPQ.out.1 (by rw [e]; rfl)
  have hQg : Q ≠ g := fun e => HPQ.out.2 (by rw [e]; rfl)
  have HPG := Lib.hid (And.intro hPg hQg)
  have hwk : IntKind.i64.wrap ((k : Int) + 1) = (k : Int) + 1 := IntWalk.i64_in _ (by omega)
  clear hk1 hk0 ho hb1 hgB hgl hPg hQg HI HPQ
  go_wp2_with fail
  clear hwk
  go_loopw [5, 6] (fun a b wr => ∃ (i j : Nat) (c : List Me), a = .int .i64 i ∧ b = .int .i64 j ∧ Hid (DelRel w B g cap l (fun m => !fgone h low m) i j c wr)) (fun _ b _ => l.length - (intOf b).toNat)
  case atStart => exact ⟨k, k + 1, l, rfl, by go_num, HST⟩
  case round =>
   obtain ⟨i, j, c, rfl, rfl, HD⟩ := hrel
   have hij := HD.out.ij
   have hjn := HD.out.jn
   have hcl := HD.out.len
   by_cases hlt : j < l.length
   ·have hltz : (j : Int) < (l.length : Int) := by omega
    obtain ⟨x, hx⟩ : ∃ x, l[j]? = some x := ⟨_, List.getElem?_eq_getElem hlt⟩
    have hcx := HD.out.at hx
    obtain ⟨g', o', hge, c0, c1, c2, _⟩ := HD.out.own.at.get hcx
    simp only [Option.some.injEq, Addr.mk.injEq, and_true] at hge
    obtain ⟨rfl, rfl⟩ := hge
    rw [Nat.zero_add] at c0 c1 c2
    have hbx : Below wr.heap.size wr (wr.alloc (.cells #[.int .i64 x.req, .int .i64 x.res.err, .int .i64 x.res.ver] 76)) := (Below.refl _ _).alloc (Nat.le_refl _) _
    have HD1 := Lib.hid (HD.out.below HBw.out hbx)
    have hcp := HC.out.kept HD1.out.bl.size HD1.out.kept HPG.out.1 HPG.out.2
    have HX := Lib.hid (fgt1_p h low P Q x (HR.out x (List.mem_of_getElem? hx)).1 (HR.out x (List.mem_of_getElem? hx)).2 _ hcp.p hcp.q hcp.cp hcp.cq)
    have HBX : Hid ((wr.alloc (.cells #[.int .i64 x.req, .int .i64 x.res.err, .int .i64 x.res.ver] 76)).heap[wr.heap.size]? = some (.cells #[.int .i64 x.req, .int .i64 x.res.err, .int .i64 x.res.ver] 76 (0, 0))) := Lib.hid (heap_alloc_new wr _)
    have HXX := Lib.hid hx
    have hwj : IntKind.i64.wrap ((j : Int) + 1) = (j : Int) + 1 := IntWalk.i64_in _ (by omega)
    have hwi : IntKind.i64.wrap ((i : Int) + 1) = (i : Int) + 1 := IntWalk.i64_in _ (by omega)
    have hil : (i : Int) < (l.length : Int) := by omega
    clear hbx hcp hx hcx hlt
    go_wp2_with fail
    generalize wr.alloc (.cells #[.int .i64 x.req, .int .i64 x.res.err, .int .i64 x.res.ver] 76) = W1 at *
    generalize wr.heap.size = XB at *
    refine HX.out.mono ?_
    rintro _ w2 ⟨rfl, hb2⟩
    have HD2 := Lib.hid (HD1.out.below HBw.out hb2)
    have HB2 := Lib.hid ((hb2.block XB (Array.getElem?_eq_some_iff.1 HBX.out).1).trans HBX.out)
    clear c0 c1 c2 hb2 HD HD1 HX HBX
    cases hq : fgone h low x with
    | true =>
     have HD3 := Lib.hid (HD2.out.skip HXX.out (by rw [hq]; rfl))
     clear hq HD2 HB2 hwi hil
     go_wp2_with fail
     go_roundw
     case rel =>
      iterate 23 apply Exists.intro
      refine ⟨?_, rfl⟩
      exact ⟨i, j + 1, c, rfl, by go_num, HD3⟩
     case measure => simp [intOf]; omega
    | false =>
     have HD3 := Lib.hid (HD2.out.keep HG.out.1 HXX.out (by rw [hq]; rfl))
     obtain ⟨y, hy⟩ : ∃ y, c[i]? = some y := ⟨_, List.getElem?_eq_getElem (by omega)⟩
     obtain ⟨g', o', hge, d0, d1, d2, hgl⟩ := HD2.out.own.at.get hy
     simp only [Option.some.injEq, Addr.mk.injEq, and_true] at hge
     obtain ⟨rfl, rfl⟩ := hge
     rw [Nat.zero_add] at d0 d1 d2
     obtain ⟨b0, b1, b2⟩ : w2.cell? ⟨XB, 0, none⟩ = some (.int .i64 x.req) ∧ w2.cell? ⟨XB, 1, none⟩ = some (.int .i64 x.res.err) ∧ w2.cell? ⟨XB, 2, none⟩ = some (.int .i64 x.res.ver) := by
      obtain ⟨_, _, _, _, mc⟩ := block_facts HB2.out
      exact ⟨mc 0 _ rfl, mc 1 _ rfl, mc 2 _ rfl⟩
     have fz : ∀ t, w2.frozen? ⟨g, t, none⟩ = false := by
      rcases HD2.out.own.2 with ⟨h2, _⟩ | ⟨g', cap', cur, hv, _, hg2, _, _, _, _⟩
      ·cases h2
      ·simp only [Value.slice.injEq, Option.some.injEq, Addr.mk.injEq] at hv
       obtain ⟨⟨rfl, _⟩, _⟩ := hv
       exact (block_facts hg2).2.1
     have f0 := fz (i * 3)
     have f1 := fz (i * 3 + 1)
     have f2 := fz (i * 3 + 2)
     clear hq HD2 HB2 hy fz
     go_wp2_with fail
     generalize ((w2.setCell ⟨g, i * 3, none⟩ (.int .i64 x.req)).setCell ⟨g, i * 3 + 1, none⟩ (.int .i64 x.res.err)).setCell ⟨g, i * 3 + 2, none⟩ (.int .i64 x.res.ver) = W3 at *
     go_roundw
     case rel =>
      iterate 23 apply Exists.intro
      refine ⟨?_, rfl⟩
      exact ⟨i + 1, j + 1, c.set i x, by go_num, by go_num, HD3⟩
     case measure => simp [intOf]; omega
   ·have hltz : ¬ (j : Int) < (l.length : Int) := by omega
    have hj : j = l.length := by omega
    subst hj
    obtain ⟨vs, hvl, hclr⟩ := memo_clear wr g (i * 3) (l.length - i) (by omega) (by
     rcases HD.out.own.2 with ⟨h2, _⟩ | ⟨g', cap', cur, hv, _, hg2, _, _, hs, _⟩
     ·cases h2
     ·simp only [Value.slice.injEq, Option.some.injEq, Addr.mk.injEq] at hv
      obtain ⟨⟨rfl, _⟩, _, rfl⟩ := hv
      exact fun t ht => (block_facts hg2).1 _ (by rw [hs]; omega)) (by
     rcases HD.out.own.2 with ⟨h2, _⟩ | ⟨g', cap', cur, hv, _, hg2, _, _, _, _⟩
     ·cases h2
     ·simp only [Value.slice.injEq, Option.some.injEq, Addr.mk.injEq] at hv
      obtain ⟨⟨rfl, _⟩, _⟩ := hv
      exact (block_facts hg2).2.1)
    have hfil : F = c.take i := by rw [← HF.out, HD.out.front, List.take_length]
    have hown := HD.out.own
    rw [← hcl] at hown
    have HFR := Lib.hid (hown.front vs (i := i) (by omega) (by omega))
    have HBL := Lib.hid (below_cells HG.out.1 vs (i * 3) _ HD.out.bl)
    have HKP : Hid (∀ y, y < w.heap.size → y ≠ g → (wr.setCells g (i * 3) vs).heap[y]? = w.heap[y]?) := Lib.hid (fun y h1 h2 => (only_setCells g vs (i * 3) wr y h2).trans (HD.out.kept y h1 h2))
    have hln : (c.take i).length = i := by rw [List.length_take]; omega
    clear HF
    subst hfil
    have hic : i ≤ cap := by omega
    have hlc : l.length ≤ cap := hcap
    have hci : ¬ cap = i := by omega
    have hil : (i : Int) ≤ (l.length : Int) := by omega
    have hicz : (i : Int) ≤ (cap : Int) := by omega
    clear hown hvl hlt HD
    go_wp2_with fail
    go_ret
    exact ⟨some ⟨g, 0, none⟩, cap, rfl, HFR.out, HBL.out, fun y h1 h2 => HKP.out y h1 (fun e => h2 (by rw [e]; rfl))⟩
end Go.Proofs.YtlpgphiccjkenaaGreatDoor
