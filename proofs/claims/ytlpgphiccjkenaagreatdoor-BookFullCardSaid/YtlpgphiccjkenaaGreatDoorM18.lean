/-
 Contracts of the program, and what they rest on.
-/
import Derived.Test.YtlpgphiccjkenaaGreatDoorTk
import Derived.Test.YtlpgphiccjkenaaGreatDoorM16
import Derived.Test.YtlpgphiccjkenaaGreatDoorM17
import Derived.Test.YtlpgphiccjkenaaGreatDoorM14
import Derived.Test.YtlpgphiccjkenaaGreatDoorM09
set_option maxRecDepth 100000
set_option maxHeartbeats 16000000
namespace Go.Proofs.YtlpgphiccjkenaaGreatDoor
open Go.RowKit
def PurgeOK : Prop := ∀ (s : Bk) (u v : Value) (B b k : Nat) (e : En) (ver : Int) (w : World), SO w B b s u v → s.l[k]? = some e → e.vs.length ≤ 1000000 → s.l.length ≤ 1000000 → B ≤ w.heap.size →
 Calls Tryz.prog 68 #[.pointer (some ⟨b, 0, none⟩), .int .i64 k, .int .i64 ver] w (OpAns B b s (purgeK s.l k e ver) u v w)
theorem badd_op (s : Bk) (u v : Value) (B b k : Nat) (e : En) (x : Ve) (w : World) (h : SO w B b s u v) (he : s.l[k]? = some e) (hv : e.vs.length ≤ 1000000) :
  Calls Tryz.prog 67 #[.pointer (some ⟨b, 0, none⟩), .int .i64 k, .agg #[.int .i64 x.ver, .bool x.gone, .string x.body]] w (OpAns B b s (addK s.l k e x) u v w) := by
 obtain ⟨ad, cap, hu, _⟩ := h.es.at.shape
 refine (badd_p s u v B b k e x w h he hv).mono ?_
 rintro _ w' ⟨rfl, h1, h2, h3⟩
 refine ⟨rfl, ⟨ad, cap, ?_⟩, h2, h3⟩
 rw [addK_len, ← hu]
 exact h1
theorem atK_at {l : List En} {key : ByteArray} {e : En} (h : atK l key = some e) : l[placeK l key]? = some e ∧ e.key = key := by
 unfold atK at h
 cases hx : l[placeK l key]? with
 | none => rw [hx] at h; cases h
 | some x =>
  rw [hx] at h
  by_cases hk : x.key = key
  ·simp [hk] at h; rw [← h]; exact ⟨rfl, hk⟩
  ·simp [hk] at h
theorem placeK_le (l : List En) (key : ByteArray) : placeK l key ≤ l.length := by
 have := (List.takeWhile_prefix (l := l) (fun e => klt e.key key)).length_le
 exact this
theorem add_new (l : List En) (k : Nat) (key : ByteArray) (x : Ve) (hk : k ≤ l.length) : addK (l.take k ++ [⟨key, []⟩] ++ l.drop k) k ⟨key, []⟩ x = (l.take k ++ [⟨key, [x]⟩] ++ l.drop k, ⟨0, x.ver⟩) := by
 have h1 : addE [] x = ([x], true) := by unfold addE mayAdd; simp
 unfold addK
 rw [h1]
 simp only [if_true]
 rw [List.append_assoc, List.set_append_right _ _ (by rw [List.length_take]; omega), List.length_take, Nat.min_eq_left hk, Nat.sub_self]
 simp
theorem change_there {l : List En} {q : Int} {d : De} {e : En} (h : atK l d.key = some e) : changeB l q d = if d.kind = 1 then (if holdsE e.vs d.cond d.tag then addK l (placeK l d.key) e ⟨q, false, d.body⟩ else (l, ⟨9, 0⟩)) else if d.kind = 2 then addK l (placeK l d.key) e ⟨q, true, ⟨#[]⟩⟩ else purgeK l (placeK l d.key) e d.ver := by
 unfold changeB
 rw [h]
theorem change_none {l : List En} {q : Int} {d : De} (h : atK l d.key = none) : changeB l q d = if d.kind = 1 then (if holdsE [] d.cond d.tag then (if l.length = 40 then (l, ⟨5, 0⟩) else addK (l.take (placeK l d.key) ++ [⟨d.key, []⟩] ++ l.drop (placeK l d.key)) (placeK l d.key) ⟨d.key, []⟩ ⟨q, false, d.body⟩) else (l, ⟨9, 0⟩)) else (l, ⟨6, 0⟩) := by
 unfold changeB
 rw [h, add_new _ _ _ _ (placeK_le _ _)]
theorem change_p (s : Bk) (u v : Value) (B b : Nat) (d : De) (w : World) (h : SO w B b s u v) (hs : SortE s.l) (hn : s.l.length ≤ 1000000) (hv : ∀ e ∈ s.l, e.vs.length ≤ 1000000) (hbd : ∀ e ∈ s.l, ∀ x ∈ e.vs, x.body.size ≤ 1000000) (ht : TzAt w) (hBw : B ≤ w.heap.size) (hP : d.kind ≠ 1 → d.kind ≠ 2 → PurgeOK) :
  Calls Tryz.prog 32 #[.pointer (some ⟨b, 0, none⟩), dagg d] w (OpAns B b s (changeB s.l s.seq d) u v w) := by
 obtain ⟨ad, cap, rfl, _⟩ := h.es.at.shape
 obtain ⟨ad', cap', rfl, _⟩ := h.ms.at.shape
 have hbw := h.bc.lt
 have HNB := Lib.hid (show w.heap.size ≠ b by omega)
 have HNB1 := Lib.hid (show w.heap.size + 1 ≠ b by omega)
 have HPL := Lib.hid (fun W (hW : Below w.heap.size w W) => bplace_p (.slice ad s.l.length cap) s.l d.key W (h.es.at.below hW) hn hs)
 have HAB := Lib.hid (fun (k : Nat) (e : En) (he : s.l[k]? = some e) W hW => badd_op s (.slice ad s.l.length cap) (.slice ad' s.ms.length cap') B b k e ⟨s.seq, true, ⟨#[]⟩⟩ W hW he (hv e (List.mem_of_getElem? he)))
 have HPT := Lib.hid (fun (k : Nat) (e : En) (he : s.l[k]? = some e) W hW (hT : TzAt W) (hB2 : B ≤ W.heap.size) => put_there s (.slice ad s.l.length cap) (.slice ad' s.ms.length cap') B b k e d W hW he (hv e (List.mem_of_getElem? he)) (hbd e (List.mem_of_getElem? he)) hT hB2)
 have HPN := Lib.hid (fun (k : Nat) (hk : k ≤ s.l.length) W hW (hT : TzAt W) (hB2 : B ≤ W.heap.size) => put_new s (.slice ad s.l.length cap) (.slice ad' s.ms.length cap') B b k d W hW hk hn hT hB2)
 have HPU := Lib.hid (fun (h1 : d.kind ≠ 1) (h2 : d.kind ≠ 2) (k : Nat) (e : En) (he : s.l[k]? = some e) W hW (hB2 : B ≤ W.heap.size) => hP h1 h2 s (.slice ad s.l.length cap) (.slice ad' s.ms.length cap') B b k e d.ver W hW he (hv e (List.mem_of_getElem? he)) hn hB2)
 have HSO := Lib.hid h
 have HT := Lib.hid ht
 have HBw := Lib.hid hBw
 have HW0 : Hid (∀ W, W = ((w.alloc (.cells #[.int .i64 d.kind, .string d.key, .string d.body, .int .i64 d.ver, .int .i64 d.cond, .string d.tag, .int .i64 d.req, .int .i64 d.low] 35)).alloc (.cells #[.int .i64 0, .int .i64 0] 30)) → Below w.heap.size w W ∧ DB W w.heap.size d ∧ RC W (w.heap.size + 1) ⟨0, 0⟩ ∧ w.heap.size + 2 ≤ W.heap.size) := Lib.hid (by
  rintro _ rfl
  refine ⟨((Below.refl _ w).alloc (Nat.le_refl _) _).alloc (by simp) _, ?_, ?_, by simp⟩
  ·unfold DB
   rw [heap_alloc_old _ _ (by simp), heap_alloc_new]
  ·unfold RC
   have := heap_alloc_new (w.alloc (.cells #[.int .i64 d.kind, .string d.key, .string d.body, .int .i64 d.ver, .int .i64 d.cond, .string d.tag, .int .i64 d.req, .int .i64 d.low] 35)) (.cells #[.int .i64 0, .int .i64 0] 30)
   simpa using this)
 have HCT := Lib.hid (fun e (h : atK s.l d.key = some e) => change_there (q := s.seq) h)
 have HCN := Lib.hid (fun (h : atK s.l d.key = none) => change_none (q := s.seq) h)
 have HKL := Lib.hid (placeK_le s.l d.key)
 have HAT := Lib.hid (fun e (h : atK s.l d.key = some e) => (atK_at h).1)
 generalize changeB s.l s.seq d = R at *
 generalize placeK s.l d.key = k at *
 unfold foundK at HPL
 generalize atK s.l d.key = M at *
 clear h hs hn hv hbd ht hBw hP
 unfold dagg at *
 go_enter Tryz.func32, Tryz.ntmps32
 go_wp2_with fail
 generalize (w.alloc (.cells #[.int .i64 d.kind, .string d.key, .string d.body, .int .i64 d.ver, .int .i64 d.cond, .string d.tag, .int .i64 d.req, .int .i64 d.low] 35)).alloc (.cells #[.int .i64 0, .int .i64 0] 30) = W at *
 obtain ⟨hbW, hdW, hrW, hsW⟩ := HW0.out W rfl
 have HBW := Lib.hid hbW
 have HDW := Lib.hid hdW
 have HRW := Lib.hid hrW
 clear hbW hdW hrW HW0
 obtain ⟨_, q1, _, _, _, _, _, _⟩ := (HSO.out.below HBW.out).bc.cells
 obtain ⟨_, p1, _, _, _, _, _, _⟩ := HDW.out.cells
 go_region_held3 (fun W' => W'.cell? ⟨b, 1, none⟩ = some (.slice ad s.l.length cap) ∧ W'.cell? ⟨w.heap.size, 1, none⟩ = some (.string d.key)) (first | exact ⟨y0, y1⟩ | go_keep) (first | (go_at_call 65; refine (HPL.out _ (HBW.out.drew)).mono ?_; rintro _ w1 ⟨rfl, hb1⟩; have hbb := (Below.refl W.heap.size W).drew.trans hb1; have y0 := cell_kept hbb (Nat.le_refl _) q1; have y1 := cell_kept hbb (Nat.le_refl _) p1))
 have HB1 := Lib.hid (HBW.out.trans (hbb.mono HBW.out.size))
 have HD1 := Lib.hid (HDW.out.below hbb)
 have HR1 := Lib.hid (HRW.out.below hbb)
 have HSO1 := Lib.hid (HSO.out.below HB1.out)
 clear hbb hb1 y0 y1 q1 p1 HRW HDW HBW HPL
 obtain ⟨p0, p1, p2, p3, p4, p5, p6, p7⟩ := HD1.out.cells
 obtain ⟨q0, _, _, _, _, _, _, _⟩ := HSO1.out.bc.cells
 cases M with
 | some e =>
  have HR0 := Lib.hid (HCT.out e rfl)
  have HE := Lib.hid (HAT.out e rfl)
  clear HCT HCN HPN HAT
  by_cases hk1 : d.kind = 1
  ·have hkd : (d.kind == 1) = true := by simp [hk1]
   have HC := Lib.hid (HPT.out k e HE.out w1 HSO1.out (HT.out.below HB1.out) (Nat.le_trans HBw.out HB1.out.size))
   rw [show (if holdsE e.vs d.cond d.tag = true then addK s.l k e ⟨s.seq, false, d.body⟩ else (s.l, ⟨9, 0⟩)) = R by rw [HR0.out, if_pos hk1]] at HC
   clear hk1 HPT HAB HPU
   go_wp2_with fail
   refine HC.out.mono ?_
   rintro _ w2 ⟨rfl, ⟨a2, c2, hso⟩, hb2, hk2⟩
   have hrc : RC w2 (w.heap.size + 1) ⟨0, 0⟩ := (hk2 _ HR1.out.lt HNB1.out (own_ne HSO.out.es (Nat.le_succ _))).trans HR1.out
   obtain ⟨hrf, hans⟩ := op_ans (w := w) (s := s) (R := R) (u := .slice ad s.l.length cap) hso hrc (Nat.le_succ _) HBw.out ((HB1.out.mono HBw.out).trans hb2) (fun i hi h1 h2 => (hk2 i (Nat.lt_of_lt_of_le hi HB1.out.size) h1 h2).trans (HB1.out.block i hi))
   obtain ⟨x0, x1, xf0, xf1⟩ := hrc.facts
   try dsimp only at x0 x1
   obtain ⟨t0, t1, _⟩ := hrf.facts
   have HANS := Lib.hid hans
   clear hso hb2 hk2 hrc hans
   go_wp2_with fail
   exact bodyPost_ret (v := .agg #[.int .i64 R.2.err, .int .i64 R.2.ver]) (by simp [results, Tryz.results32, go_sem, t0, t1]) rfl HANS.out
  ·have hkd : (d.kind == 1) = false := by simp [hk1]
   by_cases hk2 : d.kind = 2
   ·have hkd2 : (d.kind == 2) = true := by simp [hk2]
    have HC := Lib.hid (HAB.out k e HE.out w1 HSO1.out)
    rw [show addK s.l k e ⟨s.seq, true, ⟨#[]⟩⟩ = R by rw [HR0.out, if_neg hk1, if_pos hk2]] at HC
    clear hk1 hk2 HPT HAB HPU
    go_wp2_with fail
    refine HC.out.mono ?_
    rintro _ w2 ⟨rfl, ⟨a2, c2, hso⟩, hb2, hk2⟩
    have hrc : RC w2 (w.heap.size + 1) ⟨0, 0⟩ := (hk2 _ HR1.out.lt HNB1.out (own_ne HSO.out.es (Nat.le_succ _))).trans HR1.out
    obtain ⟨hrf, hans⟩ := op_ans (w := w) (s := s) (R := R) (u := .slice ad s.l.length cap) hso hrc (Nat.le_succ _) HBw.out ((HB1.out.mono HBw.out).trans hb2) (fun i hi h1 h2 => (hk2 i (Nat.lt_of_lt_of_le hi HB1.out.size) h1 h2).trans (HB1.out.block i hi))
    obtain ⟨x0, x1, xf0, xf1⟩ := hrc.facts
    try dsimp only at x0 x1
    obtain ⟨t0, t1, _⟩ := hrf.facts
    have HANS := Lib.hid hans
    clear hso hb2 hk2 hrc hans
    go_wp2_with fail
    exact bodyPost_ret (v := .agg #[.int .i64 R.2.err, .int .i64 R.2.ver]) (by simp [results, Tryz.results32, go_sem, t0, t1]) rfl HANS.out
   ·have hkd2 : (d.kind == 2) = false := by simp [hk2]
    have HC := Lib.hid (HPU.out hk1 hk2 k e HE.out w1 HSO1.out (Nat.le_trans HBw.out HB1.out.size))
    rw [show purgeK s.l k e d.ver = R by rw [HR0.out, if_neg hk1, if_neg hk2]] at HC
    clear hk1 hk2 HPT HAB HPU
    go_wp2_with fail
    refine HC.out.mono ?_
    rintro _ w2 ⟨rfl, ⟨a2, c2, hso⟩, hb2, hk2⟩
    have hrc : RC w2 (w.heap.size + 1) ⟨0, 0⟩ := (hk2 _ HR1.out.lt HNB1.out (own_ne HSO.out.es (Nat.le_succ _))).trans HR1.out
    obtain ⟨hrf, hans⟩ := op_ans (w := w) (s := s) (R := R) (u := .slice ad s.l.length cap) hso hrc (Nat.le_succ _) HBw.out ((HB1.out.mono HBw.out).trans hb2) (fun i hi h1 h2 => (hk2 i (Nat.lt_of_lt_of_le hi HB1.out.size) h1 h2).trans (HB1.out.block i hi))
    obtain ⟨x0, x1, xf0, xf1⟩ := hrc.facts
    try dsimp only at x0 x1
    obtain ⟨t0, t1, _⟩ := hrf.facts
    have HANS := Lib.hid hans
    clear hso hb2 hk2 hrc hans
    go_wp2_with fail
    exact bodyPost_ret (v := .agg #[.int .i64 R.2.err, .int .i64 R.2.ver]) (by simp [results, Tryz.results32, go_sem, t0, t1]) rfl HANS.out
 | none =>
  have HR0 := Lib.hid (HCN.out rfl)
  clear HCT HCN HAT HAB HPU HPT
  by_cases hk1 : d.kind = 1
  ·have hkd : (d.kind == 1) = true := by simp [hk1]
   have HC := Lib.hid (HPN.out k HKL.out w1 HSO1.out (HT.out.below HB1.out) (Nat.le_trans HBw.out HB1.out.size))
   rw [show (if holdsE [] d.cond d.tag = true then (if s.l.length = 40 then (s.l, (⟨5, 0⟩ : Rs)) else addK (s.l.take k ++ [⟨d.key, []⟩] ++ s.l.drop k) k ⟨d.key, []⟩ ⟨s.seq, false, d.body⟩) else (s.l, ⟨9, 0⟩)) = R by rw [HR0.out, if_pos hk1]] at HC
   clear hk1 HPN
   go_wp2_with fail
   refine HC.out.mono ?_
   rintro _ w2 ⟨rfl, ⟨a2, c2, hso⟩, hb2, hk2⟩
   have hrc : RC w2 (w.heap.size + 1) ⟨0, 0⟩ := (hk2 _ HR1.out.lt HNB1.out (own_ne HSO.out.es (Nat.le_succ _))).trans HR1.out
   obtain ⟨hrf, hans⟩ := op_ans (w := w) (s := s) (R := R) (u := .slice ad s.l.length cap) hso hrc (Nat.le_succ _) HBw.out ((HB1.out.mono HBw.out).trans hb2) (fun i hi h1 h2 => (hk2 i (Nat.lt_of_lt_of_le hi HB1.out.size) h1 h2).trans (HB1.out.block i hi))
   obtain ⟨x0, x1, xf0, xf1⟩ := hrc.facts
   try dsimp only at x0 x1
   obtain ⟨t0, t1, _⟩ := hrf.facts
   have HANS := Lib.hid hans
   clear hso hb2 hk2 hrc hans
   go_wp2_with fail
   exact bodyPost_ret (v := .agg #[.int .i64 R.2.err, .int .i64 R.2.ver]) (by simp [results, Tryz.results32, go_sem, t0, t1]) rfl HANS.out
  ·have hkd : (d.kind == 1) = false := by simp [hk1]
   obtain rfl : R = (s.l, ⟨6, 0⟩) := by rw [HR0.out, if_neg hk1]
   clear hk1 HPN HR0
   go_wp2_with fail
   refine (failed_p 6 _).mono ?_
   rintro _ w2 ⟨rfl, hb2⟩
   have hbb := HB1.out.trans (hb2.mono HB1.out.size)
   have hrc := HR1.out.below hb2
   obtain ⟨x0, x1, xf0, xf1⟩ := hrc.facts
   dsimp only at x0 x1
   obtain ⟨hrf, hans⟩ := op_ans (w := w) (R := (s.l, ⟨6, 0⟩)) (u := .slice ad s.l.length cap) (HSO.out.below hbb) hrc (Nat.le_succ _) HBw.out (hbb.mono HBw.out) (fun i hi _ _ => hbb.block i hi)
   obtain ⟨t0, t1, _⟩ := hrf.facts
   dsimp only at t0 t1 hans
   have HANS := Lib.hid hans
   clear hb2 hbb hans
   go_wp2_with fail
   exact bodyPost_ret (v := .agg #[.int .i64 6, .int .i64 0]) (by simp [results, Tryz.results32, go_sem, t0, t1]) rfl HANS.out
def DoAns (R : Bk × Rs) (w : World) (e : Ending) (w' : World) : Prop := ∃ ad cap ad' cap', e = .returned (.tuple #[bagg R.1 (.slice ad R.1.l.length cap) (.slice ad' R.1.ms.length cap'), .agg #[.int .i64 R.2.err, .int .i64 R.2.ver]]) ∧
 EOwn w' w.heap.size (.slice ad R.1.l.length cap) R.1.l ∧ MOwn w' w.heap.size (.slice ad' R.1.ms.length cap') R.1.ms ∧ Below w.heap.size w w'
structure DoW (w : World) (d : De) (s : Bk) (u v : Value) (Y : World) : Prop where
 so : SO Y w.heap.size w.heap.size s u v
 db : DB Y (w.heap.size + 1) d
 rz : BC Y (w.heap.size + 1 + 1) Bk.zero (.slice none 0 0) (.slice none 0 0)
 rr : RC Y (w.heap.size + 1 + 1 + 1) ⟨0, 0⟩
 bl : Below w.heap.size w Y
theorem DoW.below {w Y Y' : World} {d : De} {s : Bk} {u v : Value} (h : DoW w d s u v Y) (hb : Below Y.heap.size Y Y') : DoW w d s u v Y' :=
 ⟨h.so.below hb, h.db.below hb, h.rz.below hb, h.rr.below hb, h.bl.trans (hb.mono h.bl.size)⟩
theorem DoW.start {w w3 : World} {d : De} {s : Bk} {u v u0 v0 : Value} {B : Nat} (hB : w.heap.size + 4 ≤ B) (h0 : BC w3 w.heap.size s u0 v0) (h1 : DB w3 (w.heap.size + 1) d) (h2 : BC w3 (w.heap.size + 1 + 1) Bk.zero (.slice none 0 0) (.slice none 0 0)) (h3 : RC w3 (w.heap.size + 1 + 1 + 1) ⟨0, 0⟩) (hb : Below w.heap.size w w3) (he : EOwn w3 B u s.l) (hm : MOwn w3 B v s.ms) :
  DoW w d s u v (bstore w3 w.heap.size s u v) := by
 have k0 : ∀ i, i ≠ w.heap.size → (bstore w3 w.heap.size s u v).heap[i]? = w3.heap[i]? := fun i hi => bstore_heap _ _ _ _ _ hi
 exact ⟨⟨h0.store, (he.kept (fun j hj _ => k0 j (by omega))).mono (by omega), (hm.kept (fun j hj _ => k0 j (by omega))).mono (by omega), Nat.le_refl _⟩, (k0 _ (by omega)).trans h1, (k0 _ (by omega)).trans h2, (k0 _ (by omega)).trans h3, bstore_below s u v (Nat.le_refl _) hb⟩
theorem DoW.seq {w Y : World} {d : De} {s : Bk} {u v : Value} (h : DoW w d s u v Y) (q : Int) : DoW w d { s with seq := q } u v (Y.setCell ⟨w.heap.size, 0, none⟩ (.int .i64 q)) := by
 have hc := heap_setCell_same Y w.heap.size 0 _ _ (.int .i64 q) h.so.bc
 have k0 : ∀ i, i ≠ w.heap.size → (Y.setCell ⟨w.heap.size, 0, none⟩ (.int .i64 q)).heap[i]? = Y.heap[i]? := fun i hi => Below.heap_setCell _ _ _ _ hi
 refine ⟨⟨?_, h.so.es.off h.so.bc (by decide) (by decide), h.so.ms.off h.so.bc (by decide), Nat.le_refl _⟩, (k0 _ (by omega)).trans h.db, (k0 _ (by omega)).trans h.rz, (k0 _ (by omega)).trans h.rr, h.bl.setCell (p := ⟨w.heap.size, 0, none⟩) (Nat.le_refl _) _⟩
 unfold BC
 rw [hc]
 rfl
theorem DoW.op {w Y Y' : World} {d : De} {s s' : Bk} {u v u' v' : Value} (h : DoW w d s u v Y) (hso : SO Y' w.heap.size w.heap.size s' u' v') (hb : Below w.heap.size Y Y') (hk : ∀ j, j < Y.heap.size → j ≠ w.heap.size → u.ownBlock ≠ some j → v.ownBlock ≠ some j → Y'.heap[j]? = Y.heap[j]?) : DoW w d s' u' v' Y' := by
 have e0 : ∀ {T0 : TypeId} {j : Nat} {cur : Array Value}, Y.heap[j]? = some (.cells cur T0 (0, 0)) → T0 ≠ 45 → T0 ≠ 76 → j ≠ w.heap.size → Y'.heap[j]? = Y.heap[j]? := fun hj h1 h2 h3 => by
  obtain ⟨ps, hr, _⟩ := h.so.es
  exact hk _ (Array.getElem?_eq_some_iff.1 hj).1 h3 (row_off hr hj h1) (row_off h.so.ms hj h2)
 exact ⟨hso, (e0 h.db (by decide) (by decide) (by omega)).trans h.db, (e0 h.rz (by decide) (by decide) (by omega)).trans h.rz, (e0 h.rr (by decide) (by decide) (by omega)).trans h.rr, h.bl.trans hb⟩
theorem DoW.fin {w Y : World} {d : De} {s : Bk} {a a' : Option Addr} {c c' : Nat} (h : DoW w d s (.slice a s.l.length c) (.slice a' s.ms.length c') Y) (r : Rs) :
  BC (((bstore Y (w.heap.size + 1 + 1) s (.slice a s.l.length c) (.slice a' s.ms.length c')).setCell ⟨w.heap.size + 1 + 1 + 1, 0, none⟩ (.int .i64 r.err)).setCell ⟨w.heap.size + 1 + 1 + 1, 1, none⟩ (.int .i64 r.ver)) (w.heap.size + 1 + 1) s (.slice a s.l.length c) (.slice a' s.ms.length c') ∧
  RC (((bstore Y (w.heap.size + 1 + 1) s (.slice a s.l.length c) (.slice a' s.ms.length c')).setCell ⟨w.heap.size + 1 + 1 + 1, 0, none⟩ (.int .i64 r.err)).setCell ⟨w.heap.size + 1 + 1 + 1, 1, none⟩ (.int .i64 r.ver)) (w.heap.size + 1 + 1 + 1) r ∧
  DoAns (s, r) w (.returned (.tuple #[bagg s (.slice a s.l.length c) (.slice a' s.ms.length c'), .agg #[.int .i64 r.err, .int .i64 r.ver]])) (((bstore Y (w.heap.size + 1 + 1) s (.slice a s.l.length c) (.slice a' s.ms.length c')).setCell ⟨w.heap.size + 1 + 1 + 1, 0, none⟩ (.int .i64 r.err)).setCell ⟨w.heap.size + 1 + 1 + 1, 1, none⟩ (.int .i64 r.ver)) := by
 have k0 : ∀ i, i ≠ w.heap.size + 1 + 1 → i ≠ w.heap.size + 1 + 1 + 1 → (((bstore Y (w.heap.size + 1 + 1) s (.slice a s.l.length c) (.slice a' s.ms.length c')).setCell ⟨w.heap.size + 1 + 1 + 1, 0, none⟩ (.int .i64 r.err)).setCell ⟨w.heap.size + 1 + 1 + 1, 1, none⟩ (.int .i64 r.ver)).heap[i]? = Y.heap[i]? := fun i h2 h3 => by
  rw [Below.heap_setCell _ _ _ _ h3, Below.heap_setCell _ _ _ _ h3]
  exact bstore_heap _ _ _ _ _ h2
 have hr1 : RC (bstore Y (w.heap.size + 1 + 1) s (.slice a s.l.length c) (.slice a' s.ms.length c')) (w.heap.size + 1 + 1 + 1) ⟨0, 0⟩ := (bstore_heap _ _ _ _ _ (by omega)).trans h.rr
 have n2 : ∀ {T : TypeId} {z : Value} {B k n : Nat} {cs : List Value}, Y.ownsRow B T k z n cs → 27 ≠ T → 30 ≠ T → (((bstore Y (w.heap.size + 1 + 1) s (.slice a s.l.length c) (.slice a' s.ms.length c')).setCell ⟨w.heap.size + 1 + 1 + 1, 0, none⟩ (.int .i64 r.err)).setCell ⟨w.heap.size + 1 + 1 + 1, 1, none⟩ (.int .i64 r.ver)).ownsRow B T k z n cs := fun hr h1 h2 => row_kept hr (fun g hg => k0 g (fun e => row_off hr h.rz h1 (by rw [hg, e])) (fun e => row_off hr h.rr h2 (by rw [hg, e])))
 refine ⟨?_, hr1.set r, a, c, a', c', rfl, ?_, n2 h.so.ms (by decide) (by decide), ?_⟩
 ·have h2 : w.heap.size + 1 + 1 ≠ w.heap.size + 1 + 1 + 1 := by omega
  unfold BC
  rw [Below.heap_setCell _ _ _ _ h2, Below.heap_setCell _ _ _ _ h2]
  exact h.rz.store
 ·obtain ⟨ps, hr, hf⟩ := h.so.es
  exact ⟨ps, n2 hr (by decide) (by decide), hf.map (fun _ _ hz => n2 hz (by decide) (by decide))⟩
 ·exact ((bstore_below s _ _ (by omega) h.bl).setCell (p := ⟨w.heap.size + 1 + 1 + 1, 0, none⟩) (by show w.heap.size ≤ w.heap.size + 1 + 1 + 1; omega) _).setCell (p := ⟨w.heap.size + 1 + 1 + 1, 1, none⟩) (by show w.heap.size ≤ w.heap.size + 1 + 1 + 1; omega) _
theorem DoW.mid {w Y : World} {d : De} {s : Bk} {u v : Value} (h : DoW w d s u v Y) : BC (bstore Y (w.heap.size + 1 + 1) s u v) w.heap.size s u v ∧ RC (bstore Y (w.heap.size + 1 + 1) s u v) (w.heap.size + 1 + 1 + 1) ⟨0, 0⟩ :=
 ⟨(bstore_heap _ _ _ _ _ (by omega)).trans h.so.bc, (bstore_heap _ _ _ _ _ (by omega)).trans h.rr⟩
def ForgetOK : Prop := ∀ (s : Bk) (u v : Value) (B b : Nat) (h low : Int) (w : World), SO w B b s u v → 1 ≤ h → h ≤ 5 → -9223372036854775808 ≤ low → low ≤ 9223372036854775807 → s.ms.length ≤ 1000000 → (∀ m ∈ s.ms, -9223372036854775808 ≤ m.req ∧ m.req ≤ 9223372036854775807) → B ≤ w.heap.size → homeP low = h →
 Calls Tryz.prog 34 #[.pointer (some ⟨b, 0, none⟩), .int .i64 h, .int .i64 low] w (StepAns B b (forgetB s h low) u v w)
theorem forget_any (s : Bk) (u v : Value) (B b : Nat) (h low : Int) (w : World) (hso : SO w B b s u v) (h1 : 1 ≤ h) (h5 : h ≤ 5) (hl0 : -9223372036854775808 ≤ low) (hl1 : low ≤ 9223372036854775807) (hn : s.ms.length ≤ 1000000) (hr : ∀ m ∈ s.ms, -9223372036854775808 ≤ m.req ∧ m.req ≤ 9223372036854775807) (hB : B ≤ w.heap.size) (hF : homeP low = h → ForgetOK) :
  Calls Tryz.prog 34 #[.pointer (some ⟨b, 0, none⟩), .int .i64 h, .int .i64 low] w (StepAns B b (forgetB s h low) u v w) := by
 by_cases e : homeP low = h
 ·exact hF e s u v B b h low w hso h1 h5 hl0 hl1 hn hr hB e
 ·refine (forget_other b h low w hl0 hl1 e).mono ?_
  rintro _ w' ⟨rfl, hb⟩
  have hs : forgetB s h low = s := by unfold forgetB; rw [if_neg (fun x => e x.1)]
  rw [hs]
  obtain ⟨a, c, hu, _⟩ := hso.es.at.shape
  obtain ⟨a', c', hv, _⟩ := hso.ms.at.shape
  refine ⟨rfl, ⟨a, c, a', c', ?_⟩, hb.mono hB, fun j hj _ _ _ => hb.block j hj⟩
  rw [← hu, ← hv]
  exact hso.below hb
theorem do_bad2 (s : Bk) (u v : Value) (d : De) (w : World) (h : BAt w s u v) (hwf : s.wf) (hdwf : d.wf) (hlib : LibAt w) (hb : false = true ↔ mayD d) (hmay : bmay s = true) :
  Calls Tryz.prog 7 #[bagg s u v, dagg d] w (DoAns (s, ⟨1, 0⟩) w) := by
 obtain ⟨ad, cap, rfl, _⟩ := h.es.shape
 obtain ⟨ad', cap', rfl, _⟩ := h.ms.shape
 have HM := Lib.hid (fun W (hW : Below w.heap.size w W) => bmay_p s _ _ W (h.below hW) hwf)
 have HDM := Lib.hid (fun W (hW : Below w.heap.size w W) => dmay_p d false hb hdwf W (hlib.1.below hW) (hlib.2.1.below hW))
 have HCP := Lib.hid (fun W (hW : Below w.heap.size w W) => bcopied_p s _ _ W (h.below hW))
 rw [hmay] at HM
 obtain ⟨n1, hn1⟩ : ∃ n, s.l.length = n := ⟨_, rfl⟩
 obtain ⟨n2, hn2⟩ : ∃ n, s.ms.length = n := ⟨_, rfl⟩
 have HN := Lib.hid (And.intro hn1 hn2)
 unfold BAns at HCP
 rw [hn1, hn2] at HM HCP ⊢
 have HW0 : Hid (∀ W, W = ((((w.alloc (.cells #[.int .i64 s.seq, .slice ad n1 cap, .slice ad' n2 cap', .int .i64 s.l1, .int .i64 s.l2, .int .i64 s.l3, .int .i64 s.l4, .int .i64 s.l5] 27)).alloc (.cells #[.int .i64 d.kind, .string d.key, .string d.body, .int .i64 d.ver, .int .i64 d.cond, .string d.tag, .int .i64 d.req, .int .i64 d.low] 35)).alloc (.cells #[.int .i64 0, .slice none 0 0, .slice none 0 0, .int .i64 0, .int .i64 0, .int .i64 0, .int .i64 0, .int .i64 0] 27)).alloc (.cells #[.int .i64 0, .int .i64 0] 30)) → Below w.heap.size w W ∧ BC W w.heap.size s (.slice ad n1 cap) (.slice ad' n2 cap') ∧ DB W (w.heap.size + 1) d ∧ BC W (w.heap.size + 1 + 1) Bk.zero (.slice none 0 0) (.slice none 0 0) ∧ RC W (w.heap.size + 1 + 1 + 1) ⟨0, 0⟩ ∧ w.heap.size + 4 ≤ W.heap.size) := Lib.hid (by
  rintro _ rfl
  refine ⟨(((Below.refl _ w).alloc (Nat.le_refl _) _).alloc (by simp) _).alloc (by simp; omega) _ |>.alloc (by simp; omega) _, ?_, ?_, ?_, ?_, by simp⟩
  ·unfold BC
   rw [heap_alloc_old _ _ (by simp; omega), heap_alloc_old _ _ (by simp; omega), heap_alloc_old _ _ (by simp), heap_alloc_new]
   rfl
  ·unfold DB
   rw [heap_alloc_old _ _ (by simp), heap_alloc_old _ _ (by simp)]
   have := heap_alloc_new (w.alloc (.cells #[.int .i64 s.seq, .slice ad n1 cap, .slice ad' n2 cap', .int .i64 s.l1, .int .i64 s.l2, .int .i64 s.l3, .int .i64 s.l4, .int .i64 s.l5] 27)) (.cells #[.int .i64 d.kind, .string d.key, .string d.body, .int .i64 d.ver, .int .i64 d.cond, .string d.tag, .int .i64 d.req, .int .i64 d.low] 35)
   simpa using this
  ·unfold BC
   rw [heap_alloc_old _ _ (by simp)]
   have := heap_alloc_new ((w.alloc (.cells #[.int .i64 s.seq, .slice ad n1 cap, .slice ad' n2 cap', .int .i64 s.l1, .int .i64 s.l2, .int .i64 s.l3, .int .i64 s.l4, .int .i64 s.l5] 27)).alloc (.cells #[.int .i64 d.kind, .string d.key, .string d.body, .int .i64 d.ver, .int .i64 d.cond, .string d.tag, .int .i64 d.req, .int .i64 d.low] 35)) (.cells #[.int .i64 0, .slice none 0 0, .slice none 0 0, .int .i64 0, .int .i64 0, .int .i64 0, .int .i64 0, .int .i64 0] 27)
   unfold bcells Bk.zero
   simpa using this
  ·unfold RC
   have := heap_alloc_new (((w.alloc (.cells #[.int .i64 s.seq, .slice ad n1 cap, .slice ad' n2 cap', .int .i64 s.l1, .int .i64 s.l2, .int .i64 s.l3, .int .i64 s.l4, .int .i64 s.l5] 27)).alloc (.cells #[.int .i64 d.kind, .string d.key, .string d.body, .int .i64 d.ver, .int .i64 d.cond, .string d.tag, .int .i64 d.req, .int .i64 d.low] 35)).alloc (.cells #[.int .i64 0, .slice none 0 0, .slice none 0 0, .int .i64 0, .int .i64 0, .int .i64 0, .int .i64 0, .int .i64 0] 27)) (.cells #[.int .i64 0, .int .i64 0] 30)
   simpa using this)
 clear h hwf hdwf hlib hn1 hn2 hmay hb
 unfold dagg at *
 unfold bagg at *
 go_enter Tryz.func7, Tryz.ntmps7
 go_wp2_with fail
 generalize ((((w.alloc (.cells #[.int .i64 s.seq, .slice ad n1 cap, .slice ad' n2 cap', .int .i64 s.l1, .int .i64 s.l2, .int .i64 s.l3, .int .i64 s.l4, .int .i64 s.l5] 27)).alloc (.cells #[.int .i64 d.kind, .string d.key, .string d.body, .int .i64 d.ver, .int .i64 d.cond, .string d.tag, .int .i64 d.req, .int .i64 d.low] 35)).alloc (.cells #[.int .i64 0, .slice none 0 0, .slice none 0 0, .int .i64 0, .int .i64 0, .int .i64 0, .int .i64 0, .int .i64 0] 27)).alloc (.cells #[.int .i64 0, .int .i64 0] 30)) = W at *
 obtain ⟨hbW, h0, h1, h2, h3, hsW⟩ := HW0.out W rfl
 refine (HM.out W hbW).mono ?_
 rintro _ w1 ⟨rfl, hb1⟩
 obtain ⟨d0, d1, d2, d3, d4, d5, d6, d7⟩ := (h1.below hb1).cells
 go_wp2_with fail
 refine (HDM.out w1 (hbW.trans (hb1.mono hbW.size))).mono ?_
 rintro _ w1' ⟨rfl, hb1'⟩
 replace hb1 := hb1.trans (hb1'.mono hb1.size)
 clear d0 d1 d2 d3 d4 d5 d6 d7 hb1'
 obtain ⟨q0, q1, q2, q3, q4, q5, q6, q7⟩ := (h0.below hb1).cells
 go_wp2_with fail
 refine (HCP.out w1' (hbW.trans (hb1.mono hbW.size))).mono ?_
 rintro _ w3 ⟨a1, c1, a2, c2, rfl, ho1, ho2, hb3⟩
 have hbb := hb1.trans (hb3.mono hb1.size)
 have hst := DoW.start (Nat.le_trans hsW hb1.size) (h0.below hbb) (h1.below hbb) (h2.below hbb) (h3.below hbb) (hbW.trans (hbb.mono hbW.size)) ho1 ho2
 have HY := Lib.hid hst
 have hcc := h0.below hbb
 clear q0 q1 q2 q3 q4 q5 q6 q7 hst ho1 ho2 hb3 hb1 h0 h1 h2 h3 hbW HW0 HM HDM HCP
 obtain ⟨q0, q1, q2, q3, q4, q5, q6, q7⟩ := hcc.cells
 have f0 := hcc.free 0
 have f1 := hcc.free 1
 have f2 := hcc.free 2
 have f3 := hcc.free 3
 have f4 := hcc.free 4
 have f5 := hcc.free 5
 have f6 := hcc.free 6
 have f7 := hcc.free 7
 clear hcc hbb
 go_wp2_with fail
 unfold bstore at HY
 generalize ((((((((w3.setCell ⟨w.heap.size, 0, none⟩ (.int .i64 s.seq)).setCell ⟨w.heap.size, 1, none⟩ (.slice a1 n1 c1)).setCell ⟨w.heap.size, 2, none⟩ (.slice a2 n2 c2)).setCell ⟨w.heap.size, 3, none⟩ (.int .i64 s.l1)).setCell ⟨w.heap.size, 4, none⟩ (.int .i64 s.l2)).setCell ⟨w.heap.size, 5, none⟩ (.int .i64 s.l3)).setCell ⟨w.heap.size, 6, none⟩ (.int .i64 s.l4)).setCell ⟨w.heap.size, 7, none⟩ (.int .i64 s.l5)) = Y at *
 clear q0 q1 q2 q3 q4 q5 q6 q7 f0 f1 f2 f3 f4 f5 f6 f7
 obtain ⟨q0, q1, q2, q3, q4, q5, q6, q7⟩ := HY.out.so.bc.cells
 go_wp2_with fail
 clear q0 q1 q2 q3 q4 q5 q6 q7
 have hS0 : BC Y.drew w.heap.size s (.slice a1 n1 c1) (.slice a2 n2 c2) := HY.out.so.bc
 refine wp_region_last (S := fun W' => BC W' w.heap.size s (.slice a1 n1 c1) (.slice a2 n2 c2)) (by kernel_rfl) (ops := List.toArray [_, _, _]) (o := _) rfl (by kernel_rfl) ?_
 refine tk 0 (.agg #[.int .i64 s.seq, .slice a1 n1 c1, .slice a2 n2 c2, .int .i64 s.l1, .int .i64 s.l2, .int .i64 s.l3, .int .i64 s.l4, .int .i64 s.l5]) rfl ?_ hS0 ?_
 ·intro w' hw
  obtain ⟨q0, q1, q2, q3, q4, q5, q6, q7⟩ := hw.cells
  go_simp
 simp only [List.getElem_toArray, List.getElem_cons_zero, Act.put, List.setIfInBounds_toArray, List.set_cons_zero, List.set_cons_succ]
 clear hS0
 refine wpAnyH_ready (rs := [1]) (by kernel_rfl) (by simp) ?_
 refine AllReadyH.cons rfl (fun K hK => ?_) AllReadyH.nil
 simp only [List.getElem_toArray, List.getElem_cons_succ, List.getElem_cons_zero]
 go_simp
 refine (failed_p 1 _).mono ?_
 rintro _ y ⟨rfl, hb1⟩
 have HYY := Lib.hid (HY.out.below ((Below.refl Y.heap.size Y).drew.trans hb1))
 clear hb1
 refine hK.out _ _ HYY.out.so.bc (fun _ => ?_)
 clear hK
 obtain ⟨hm1, hm2⟩ := HYY.out.mid
 obtain ⟨hf1, hf2, hf3⟩ := DoW.fin (by rw [HN.out.1, HN.out.2]; exact HYY.out) ⟨1, 0⟩
 rw [HN.out.1, HN.out.2] at hf1 hf2 hf3
 unfold bstore at hm1 hm2 hf1 hf2 hf3
 try unfold bagg at hf3
 try dsimp only at hm1 hm2 hf1 hf2 hf3
 have HM1 := Lib.hid hm1
 have HM2 := Lib.hid hm2
 have HF := Lib.hid (And.intro hf1 (And.intro hf2 hf3))
 clear hm1 hm2 hf1 hf2 hf3
 obtain ⟨z0, z1, z2, z3, z4, z5, z6, z7⟩ := BC.cells (s := Bk.zero) HYY.out.rz
 dsimp only [Bk.zero] at z0 z1 z2 z3 z4 z5 z6 z7
 have g0 := HYY.out.rz.free 0
 have g1 := HYY.out.rz.free 1
 have g2 := HYY.out.rz.free 2
 have g3 := HYY.out.rz.free 3
 have g4 := HYY.out.rz.free 4
 have g5 := HYY.out.rz.free 5
 have g6 := HYY.out.rz.free 6
 have g7 := HYY.out.rz.free 7
 refine wpAnyH_ready (rs := [2]) (by kernel_rfl) (by simp) ?_
 refine AllReadyH.cons rfl (fun K hK => ?_) AllReadyH.nil
 simp only [List.getElem_toArray, List.getElem_cons_succ, List.getElem_cons_zero]
 go_simp
 refine hK.out _ _ HM1.out (fun _ => ?_)
 clear hK z0 z1 z2 z3 z4 z5 z6 z7 g0 g1 g2 g3 g4 g5 g6 g7
 generalize ((((((((y.setCell ⟨w.heap.size + 1 + 1, 0, none⟩ (.int .i64 s.seq)).setCell ⟨w.heap.size + 1 + 1, 1, none⟩ (.slice a1 n1 c1)).setCell ⟨w.heap.size + 1 + 1, 2, none⟩ (.slice a2 n2 c2)).setCell ⟨w.heap.size + 1 + 1, 3, none⟩ (.int .i64 s.l1)).setCell ⟨w.heap.size + 1 + 1, 4, none⟩ (.int .i64 s.l2)).setCell ⟨w.heap.size + 1 + 1, 5, none⟩ (.int .i64 s.l3)).setCell ⟨w.heap.size + 1 + 1, 6, none⟩ (.int .i64 s.l4)).setCell ⟨w.heap.size + 1 + 1, 7, none⟩ (.int .i64 s.l5)) = Y9 at *
 refine wpAnyH_done (by kernel_rfl) ?_ _
 obtain ⟨x0, x1, xf0, xf1⟩ := HM2.out.facts
 try dsimp only at x0 x1
 have hlt9 := HM2.out.lt
 rw [Exit.then]
 rw [if_pos (by rfl)]
 go_simp
 go_wp2_with fail
 obtain ⟨t0, t1, t2, t3, t4, t5, t6, t7⟩ := HF.out.1.cells
 obtain ⟨r0, r1, _⟩ := HF.out.2.1.facts
 try dsimp only at t0 t1 t2 t3 t4 t5 t6 t7 r0 r1
 have HF3 := HF.out.2.2
 clear x0 x1 xf0 xf1 HF
 generalize (Y9.setCell ⟨w.heap.size + 1 + 1 + 1, 0, none⟩ (.int .i64 1)).setCell ⟨w.heap.size + 1 + 1 + 1, 1, none⟩ (.int .i64 0) = Y8 at *
 exact bodyPost_ret (v := .tuple #[.agg #[.int .i64 s.seq, .slice a1 n1 c1, .slice a2 n2 c2, .int .i64 s.l1, .int .i64 s.l2, .int .i64 s.l3, .int .i64 s.l4, .int .i64 s.l5], .agg #[.int .i64 1, .int .i64 0]]) (by simp [results, Tryz.results7, go_sem, t0, t1, t2, t3, t4, t5, t6, t7, r0, r1]) rfl HF3
theorem do_old (s : Bk) (u v : Value) (d : De) (w : World) (h : BAt w s u v) (hwf : s.wf) (hdwf : d.wf) (hlib : LibAt w) (hb : true = true ↔ mayD d) (hmay : bmay s = true) (hs0 : 0 ≤ s.seq) (hs1 : s.seq < 1099511627776) (hh1 : 1 ≤ homeP d.req) (hh5 : homeP d.req ≤ 5) (hlo : d.req < (Bk.mk (s.seq + 1) s.l s.ms s.l1 s.l2 s.l3 s.l4 s.l5).low (homeP d.req)) :
  Calls Tryz.prog 7 #[bagg s u v, dagg d] w (DoAns (Bk.mk (s.seq + 1) s.l s.ms s.l1 s.l2 s.l3 s.l4 s.l5, ⟨12, 0⟩) w) := by
 have hdl : decide (d.req < (Bk.mk (s.seq + 1) s.l s.ms s.l1 s.l2 s.l3 s.l4 s.l5).low (homeP d.req)) = true := decide_eq_true hlo
 clear hlo
 have hqb : (s.seq == 1099511627776) = false := by rw [beq_eq_false_iff_ne]; omega
 have HH := Lib.hid (fun W => home_p d.req hdwf.2.2.2.1.1 hdwf.2.2.2.1.2 W)
 obtain ⟨ad, cap, rfl, _⟩ := h.es.shape
 obtain ⟨ad', cap', rfl, _⟩ := h.ms.shape
 have HM := Lib.hid (fun W (hW : Below w.heap.size w W) => bmay_p s _ _ W (h.below hW) hwf)
 have HDM := Lib.hid (fun W (hW : Below w.heap.size w W) => dmay_p d true hb hdwf W (hlib.1.below hW) (hlib.2.1.below hW))
 have HCP := Lib.hid (fun W (hW : Below w.heap.size w W) => bcopied_p s _ _ W (h.below hW))
 rw [hmay] at HM
 obtain ⟨n1, hn1⟩ : ∃ n, s.l.length = n := ⟨_, rfl⟩
 obtain ⟨n2, hn2⟩ : ∃ n, s.ms.length = n := ⟨_, rfl⟩
 have HN := Lib.hid (And.intro hn1 hn2)
 unfold BAns at HCP
 rw [hn1, hn2] at HM HCP ⊢
 have HW0 : Hid (∀ W, W = ((((w.alloc (.cells #[.int .i64 s.seq, .slice ad n1 cap, .slice ad' n2 cap', .int .i64 s.l1, .int .i64 s.l2, .int .i64 s.l3, .int .i64 s.l4, .int .i64 s.l5] 27)).alloc (.cells #[.int .i64 d.kind, .string d.key, .string d.body, .int .i64 d.ver, .int .i64 d.cond, .string d.tag, .int .i64 d.req, .int .i64 d.low] 35)).alloc (.cells #[.int .i64 0, .slice none 0 0, .slice none 0 0, .int .i64 0, .int .i64 0, .int .i64 0, .int .i64 0, .int .i64 0] 27)).alloc (.cells #[.int .i64 0, .int .i64 0] 30)) → Below w.heap.size w W ∧ BC W w.heap.size s (.slice ad n1 cap) (.slice ad' n2 cap') ∧ DB W (w.heap.size + 1) d ∧ BC W (w.heap.size + 1 + 1) Bk.zero (.slice none 0 0) (.slice none 0 0) ∧ RC W (w.heap.size + 1 + 1 + 1) ⟨0, 0⟩ ∧ w.heap.size + 4 ≤ W.heap.size) := Lib.hid (by
  rintro _ rfl
  refine ⟨(((Below.refl _ w).alloc (Nat.le_refl _) _).alloc (by simp) _).alloc (by simp; omega) _ |>.alloc (by simp; omega) _, ?_, ?_, ?_, ?_, by simp⟩
  ·unfold BC
   rw [heap_alloc_old _ _ (by simp; omega), heap_alloc_old _ _ (by simp; omega), heap_alloc_old _ _ (by simp), heap_alloc_new]
   rfl
  ·unfold DB
   rw [heap_alloc_old _ _ (by simp), heap_alloc_old _ _ (by simp)]
   have := heap_alloc_new (w.alloc (.cells #[.int .i64 s.seq, .slice ad n1 cap, .slice ad' n2 cap', .int .i64 s.l1, .int .i64 s.l2, .int .i64 s.l3, .int .i64 s.l4, .int .i64 s.l5] 27)) (.cells #[.int .i64 d.kind, .string d.key, .string d.body, .int .i64 d.ver, .int .i64 d.cond, .string d.tag, .int .i64 d.req, .int .i64 d.low] 35)
   simpa using this
  ·unfold BC
   rw [heap_alloc_old _ _ (by simp)]
   have := heap_alloc_new ((w.alloc (.cells #[.int .i64 s.seq, .slice ad n1 cap, .slice ad' n2 cap', .int .i64 s.l1, .int .i64 s.l2, .int .i64 s.l3, .int .i64 s.l4, .int .i64 s.l5] 27)).alloc (.cells #[.int .i64 d.kind, .string d.key, .string d.body, .int .i64 d.ver, .int .i64 d.cond, .string d.tag, .int .i64 d.req, .int .i64 d.low] 35)) (.cells #[.int .i64 0, .slice none 0 0, .slice none 0 0, .int .i64 0, .int .i64 0, .int .i64 0, .int .i64 0, .int .i64 0] 27)
   unfold bcells Bk.zero
   simpa using this
  ·unfold RC
   have := heap_alloc_new (((w.alloc (.cells #[.int .i64 s.seq, .slice ad n1 cap, .slice ad' n2 cap', .int .i64 s.l1, .int .i64 s.l2, .int .i64 s.l3, .int .i64 s.l4, .int .i64 s.l5] 27)).alloc (.cells #[.int .i64 d.kind, .string d.key, .string d.body, .int .i64 d.ver, .int .i64 d.cond, .string d.tag, .int .i64 d.req, .int .i64 d.low] 35)).alloc (.cells #[.int .i64 0, .slice none 0 0, .slice none 0 0, .int .i64 0, .int .i64 0, .int .i64 0, .int .i64 0, .int .i64 0] 27)) (.cells #[.int .i64 0, .int .i64 0] 30)
   simpa using this)
 clear h hwf hdwf hlib hn1 hn2 hmay hb
 unfold dagg at *
 unfold bagg at *
 go_enter Tryz.func7, Tryz.ntmps7
 go_wp2_with fail
 generalize ((((w.alloc (.cells #[.int .i64 s.seq, .slice ad n1 cap, .slice ad' n2 cap', .int .i64 s.l1, .int .i64 s.l2, .int .i64 s.l3, .int .i64 s.l4, .int .i64 s.l5] 27)).alloc (.cells #[.int .i64 d.kind, .string d.key, .string d.body, .int .i64 d.ver, .int .i64 d.cond, .string d.tag, .int .i64 d.req, .int .i64 d.low] 35)).alloc (.cells #[.int .i64 0, .slice none 0 0, .slice none 0 0, .int .i64 0, .int .i64 0, .int .i64 0, .int .i64 0, .int .i64 0] 27)).alloc (.cells #[.int .i64 0, .int .i64 0] 30)) = W at *
 obtain ⟨hbW, h0, h1, h2, h3, hsW⟩ := HW0.out W rfl
 refine (HM.out W hbW).mono ?_
 rintro _ w1 ⟨rfl, hb1⟩
 obtain ⟨d0, d1, d2, d3, d4, d5, d6, d7⟩ := (h1.below hb1).cells
 go_wp2_with fail
 refine (HDM.out w1 (hbW.trans (hb1.mono hbW.size))).mono ?_
 rintro _ w1' ⟨rfl, hb1'⟩
 replace hb1 := hb1.trans (hb1'.mono hb1.size)
 clear d0 d1 d2 d3 d4 d5 d6 d7 hb1'
 obtain ⟨q0, q1, q2, q3, q4, q5, q6, q7⟩ := (h0.below hb1).cells
 go_wp2_with fail
 refine (HCP.out w1' (hbW.trans (hb1.mono hbW.size))).mono ?_
 rintro _ w3 ⟨a1, c1, a2, c2, rfl, ho1, ho2, hb3⟩
 have hbb := hb1.trans (hb3.mono hb1.size)
 have hst := DoW.start (Nat.le_trans hsW hb1.size) (h0.below hbb) (h1.below hbb) (h2.below hbb) (h3.below hbb) (hbW.trans (hbb.mono hbW.size)) ho1 ho2
 have HY := Lib.hid hst
 have hcc := h0.below hbb
 clear q0 q1 q2 q3 q4 q5 q6 q7 hst ho1 ho2 hb3 hb1 h0 h1 h2 h3 hbW HW0 HM HDM HCP
 obtain ⟨q0, q1, q2, q3, q4, q5, q6, q7⟩ := hcc.cells
 have f0 := hcc.free 0
 have f1 := hcc.free 1
 have f2 := hcc.free 2
 have f3 := hcc.free 3
 have f4 := hcc.free 4
 have f5 := hcc.free 5
 have f6 := hcc.free 6
 have f7 := hcc.free 7
 clear hcc hbb
 go_wp2_with fail
 unfold bstore at HY
 generalize ((((((((w3.setCell ⟨w.heap.size, 0, none⟩ (.int .i64 s.seq)).setCell ⟨w.heap.size, 1, none⟩ (.slice a1 n1 c1)).setCell ⟨w.heap.size, 2, none⟩ (.slice a2 n2 c2)).setCell ⟨w.heap.size, 3, none⟩ (.int .i64 s.l1)).setCell ⟨w.heap.size, 4, none⟩ (.int .i64 s.l2)).setCell ⟨w.heap.size, 5, none⟩ (.int .i64 s.l3)).setCell ⟨w.heap.size, 6, none⟩ (.int .i64 s.l4)).setCell ⟨w.heap.size, 7, none⟩ (.int .i64 s.l5)) = Y at *
 clear q0 q1 q2 q3 q4 q5 q6 q7 f0 f1 f2 f3 f4 f5 f6 f7
 obtain ⟨q0, q1, q2, q3, q4, q5, q6, q7⟩ := HY.out.so.bc.cells
 have f0 := HY.out.so.bc.free 0
 have hltb := HY.out.so.bc.lt
 go_wp2_with fail
 have hyq := HY.out.seq (s.seq + 1)
 clear HY q0 q1 q2 q3 q4 q5 q6 q7 f0 hltb
 have HY := Lib.hid hyq
 clear hyq
 generalize Y.setCell ⟨w.heap.size, 0, none⟩ (.int .i64 (s.seq + 1)) = Y2 at *
 have HN2 : Hid ((Bk.mk (s.seq + 1) s.l s.ms s.l1 s.l2 s.l3 s.l4 s.l5).l.length = n1 ∧ (Bk.mk (s.seq + 1) s.l s.ms s.l1 s.l2 s.l3 s.l4 s.l5).ms.length = n2) := Lib.hid HN.out
 have HEQ : Hid ((Bk.mk (s.seq + 1) s.l s.ms s.l1 s.l2 s.l3 s.l4 s.l5).l = s.l ∧ (Bk.mk (s.seq + 1) s.l s.ms s.l1 s.l2 s.l3 s.l4 s.l5).ms = s.ms) := Lib.hid ⟨rfl, rfl⟩
 generalize Bk.mk (s.seq + 1) s.l s.ms s.l1 s.l2 s.l3 s.l4 s.l5 = s2 at *
 clear HN hqb hs0 hs1
 have HN := HN2
 clear HN2
 obtain ⟨_, _, _, _, _, _, d6, _⟩ := HY.out.db.cells
 have hlw := HY.out.so.bc.low (n := homeP d.req) hh1 hh5
 rw [show 3 + (homeP d.req - 1).toNat = 3 + ((homeP d.req).toNat - 1) by omega] at hlw
 generalize s2.low (homeP d.req) = lw at *
 generalize homeP d.req = hm at *
 have hwr : IntKind.i64.wrap (hm - 1) = hm - 1 := IntWalk.i64_in _ (by omega)
 have hp0 : 0 ≤ hm - 1 := by omega
 have hp5 : hm - 1 < 5 := by omega
 go_quiet ((go_at_call 26; exact Calls.quiet_of_same ((HH.out _).mono fun _ _ ⟨a, b⟩ => ⟨a, b.symm⟩)))
 have hyn : DoW w d s2 (.slice a1 n1 c1) (.slice a2 n2 c2) (Y2.drewN nq) := HY.out.below ⟨rfl, rfl, rfl, Nat.le_refl _, fun _ _ => rfl⟩
 clear HY d6 hlw hwr hp0 hp5
 have HY := Lib.hid hyn
 clear hyn
 generalize Y2.drewN nq = Y3 at *
 obtain ⟨q0, q1, q2, q3, q4, q5, q6, q7⟩ := HY.out.so.bc.cells
 go_wp2_with fail
 clear q0 q1 q2 q3 q4 q5 q6 q7
 have hS0 : BC Y3.drew w.heap.size s2 (.slice a1 n1 c1) (.slice a2 n2 c2) := HY.out.so.bc
 refine wp_region_last (S := fun W' => BC W' w.heap.size s2 (.slice a1 n1 c1) (.slice a2 n2 c2)) (by kernel_rfl) (ops := List.toArray [_, _, _]) (o := _) rfl (by kernel_rfl) ?_
 refine tk 0 (.agg #[.int .i64 s2.seq, .slice a1 n1 c1, .slice a2 n2 c2, .int .i64 s2.l1, .int .i64 s2.l2, .int .i64 s2.l3, .int .i64 s2.l4, .int .i64 s2.l5]) rfl ?_ hS0 ?_
 ·intro w' hw
  obtain ⟨q0, q1, q2, q3, q4, q5, q6, q7⟩ := hw.cells
  go_simp
 simp only [List.getElem_toArray, List.getElem_cons_zero, Act.put, List.setIfInBounds_toArray, List.set_cons_zero, List.set_cons_succ]
 clear hS0
 refine wpAnyH_ready (rs := [1]) (by kernel_rfl) (by simp) ?_
 refine AllReadyH.cons rfl (fun K hK => ?_) AllReadyH.nil
 simp only [List.getElem_toArray, List.getElem_cons_succ, List.getElem_cons_zero]
 go_simp
 refine (failed_p 12 _).mono ?_
 rintro _ y ⟨rfl, hb1⟩
 have HYY := Lib.hid (HY.out.below ((Below.refl Y3.heap.size Y3).drew.trans hb1))
 clear hb1
 refine hK.out _ _ HYY.out.so.bc (fun _ => ?_)
 clear hK
 obtain ⟨hm1, hm2⟩ := HYY.out.mid
 obtain ⟨hf1, hf2, hf3⟩ := DoW.fin (by rw [HN.out.1, HN.out.2]; exact HYY.out) ⟨12, 0⟩
 rw [HN.out.1, HN.out.2] at hf1 hf2 hf3
 unfold bstore at hm1 hm2 hf1 hf2 hf3
 try unfold bagg at hf3
 try dsimp only at hm1 hm2 hf1 hf2 hf3
 have HM1 := Lib.hid hm1
 have HM2 := Lib.hid hm2
 have HF := Lib.hid (And.intro hf1 (And.intro hf2 hf3))
 clear hm1 hm2 hf1 hf2 hf3
 obtain ⟨z0, z1, z2, z3, z4, z5, z6, z7⟩ := BC.cells (s := Bk.zero) HYY.out.rz
 dsimp only [Bk.zero] at z0 z1 z2 z3 z4 z5 z6 z7
 have g0 := HYY.out.rz.free 0
 have g1 := HYY.out.rz.free 1
 have g2 := HYY.out.rz.free 2
 have g3 := HYY.out.rz.free 3
 have g4 := HYY.out.rz.free 4
 have g5 := HYY.out.rz.free 5
 have g6 := HYY.out.rz.free 6
 have g7 := HYY.out.rz.free 7
 refine wpAnyH_ready (rs := [2]) (by kernel_rfl) (by simp) ?_
 refine AllReadyH.cons rfl (fun K hK => ?_) AllReadyH.nil
 simp only [List.getElem_toArray, List.getElem_cons_succ, List.getElem_cons_zero]
 go_simp
 refine hK.out _ _ HM1.out (fun _ => ?_)
 clear hK z0 z1 z2 z3 z4 z5 z6 z7 g0 g1 g2 g3 g4 g5 g6 g7
 generalize ((((((((y.setCell ⟨w.heap.size + 1 + 1, 0, none⟩ (.int .i64 s2.seq)).setCell ⟨w.heap.size + 1 + 1, 1, none⟩ (.slice a1 n1 c1)).setCell ⟨w.heap.size + 1 + 1, 2, none⟩ (.slice a2 n2 c2)).setCell ⟨w.heap.size + 1 + 1, 3, none⟩ (.int .i64 s2.l1)).setCell ⟨w.heap.size + 1 + 1, 4, none⟩ (.int .i64 s2.l2)).setCell ⟨w.heap.size + 1 + 1, 5, none⟩ (.int .i64 s2.l3)).setCell ⟨w.heap.size + 1 + 1, 6, none⟩ (.int .i64 s2.l4)).setCell ⟨w.heap.size + 1 + 1, 7, none⟩ (.int .i64 s2.l5)) = Y9 at *
 refine wpAnyH_done (by kernel_rfl) ?_ _
 obtain ⟨x0, x1, xf0, xf1⟩ := HM2.out.facts
 try dsimp only at x0 x1
 have hlt9 := HM2.out.lt
 rw [Exit.then]
 rw [if_pos (by rfl)]
 go_simp
 go_wp2_with fail
 obtain ⟨t0, t1, t2, t3, t4, t5, t6, t7⟩ := HF.out.1.cells
 obtain ⟨r0, r1, _⟩ := HF.out.2.1.facts
 try dsimp only at t0 t1 t2 t3 t4 t5 t6 t7 r0 r1
 have HF3 := HF.out.2.2
 clear x0 x1 xf0 xf1 HF
 generalize (Y9.setCell ⟨w.heap.size + 1 + 1 + 1, 0, none⟩ (.int .i64 12)).setCell ⟨w.heap.size + 1 + 1 + 1, 1, none⟩ (.int .i64 0) = Y8 at *
 exact bodyPost_ret (v := .tuple #[.agg #[.int .i64 s2.seq, .slice a1 n1 c1, .slice a2 n2 c2, .int .i64 s2.l1, .int .i64 s2.l2, .int .i64 s2.l3, .int .i64 s2.l4, .int .i64 s2.l5], .agg #[.int .i64 12, .int .i64 0]]) (by simp [results, Tryz.results7, go_sem, t0, t1, t2, t3, t4, t5, t6, t7, r0, r1]) rfl HF3
end Go.Proofs.YtlpgphiccjkenaaGreatDoor
