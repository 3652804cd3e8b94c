/-
 Contracts of the program, and what they rest on.
-/
import Derived.Test.YtlpgphiccjkenaaGreatDoorTk
import Derived.Test.YtlpgphiccjkenaaGreatDoorM15
import Derived.Test.YtlpgphiccjkenaaGreatDoorM13
import Derived.Test.YtlpgphiccjkenaaGreatDoorM08
import Derived.Test.YtlpgphiccjkenaaGreatDoorM12
set_option maxRecDepth 100000
set_option maxHeartbeats 16000000
namespace Go.Proofs.YtlpgphiccjkenaaGreatDoor
open Go.RowKit
def DB (w : World) (b : Nat) (d : De) : Prop := w.heap[b]? = some (.cells #[.int .i64 d.kind, .string d.key, .string d.body, .int .i64 d.ver, .int .i64 d.cond, .string d.tag, .int .i64 d.req, .int .i64 d.low] 35 (0, 0))
theorem DB.lt {w : World} {b : Nat} {d : De} (h : DB w b d) : b < w.heap.size := (Array.getElem?_eq_some_iff.1 h).1
theorem DB.below {w w' : World} {b : Nat} {d : De} (h : DB w b d) (hb : Below w.heap.size w w') : DB w' b d := (hb.block b h.lt).trans h
theorem DB.cells {w : World} {b : Nat} {d : De} (h : DB w b d) :
  w.cell? ⟨b, 0, none⟩ = some (.int .i64 d.kind) ∧ w.cell? ⟨b, 1, none⟩ = some (.string d.key) ∧ w.cell? ⟨b, 2, none⟩ = some (.string d.body) ∧ w.cell? ⟨b, 3, none⟩ = some (.int .i64 d.ver) ∧ w.cell? ⟨b, 4, none⟩ = some (.int .i64 d.cond) ∧ w.cell? ⟨b, 5, none⟩ = some (.string d.tag) ∧ w.cell? ⟨b, 6, none⟩ = some (.int .i64 d.req) ∧ w.cell? ⟨b, 7, none⟩ = some (.int .i64 d.low) := by
 obtain ⟨_, _, _, _, c⟩ := block_facts h
 exact ⟨c 0 _ rfl, c 1 _ rfl, c 2 _ rfl, c 3 _ rfl, c 4 _ rfl, c 5 _ rfl, c 6 _ rfl, c 7 _ rfl⟩
def OpAns (B b : Nat) (s : Bk) (R : List En × Rs) (u v : Value) (w : World) (e : Ending) (w' : World) : Prop :=
 e = .returned (.agg #[.int .i64 R.2.err, .int .i64 R.2.ver]) ∧ (∃ a c, SO w' B b { s with l := R.1 } (.slice a R.1.length c) v) ∧ Below B w w' ∧ ∀ j, j < w.heap.size → j ≠ b → u.ownBlock ≠ some j → w'.heap[j]? = w.heap[j]?
theorem SO.res {w : World} {B b j : Nat} {s : Bk} {u v : Value} {r : Rs} (h : SO w B b s u v) (hr : RC w j r) (r' : Rs) : SO ((w.setCell ⟨j, 0, none⟩ (.int .i64 r'.err)).setCell ⟨j, 1, none⟩ (.int .i64 r'.ver)) B b s u v := by
 have hr1 := heap_setCell_same w j 0 _ _ (.int .i64 r'.err) hr
 have hjb : b ≠ j := by
  intro e
  subst e
  have h1 := h.bc
  unfold BC at h1
  unfold RC at hr
  rw [hr] at h1
  simp only [Option.some.injEq, Obj.cells.injEq] at h1
  exact absurd h1.2.1 (by decide)
 refine ⟨?_, (h.es.off hr (by decide) (by decide)).off hr1 (by decide) (by decide), (h.ms.off hr (by decide)).off hr1 (by decide), h.lo⟩
 unfold BC
 rw [Below.heap_setCell _ _ _ _ hjb, Below.heap_setCell _ _ _ _ hjb]
 exact h.bc
theorem op_ans {w w1 : World} {B b j : Nat} {s : Bk} {R : List En × Rs} {u v : Value} {a : Option Addr} {c : Nat} {r0 : Rs} (h : SO w1 B b { s with l := R.1 } (.slice a R.1.length c) v) (hr : RC w1 j r0) (hj : w.heap.size ≤ j) (hB : B ≤ w.heap.size) (hb : Below B w w1) (hk : ∀ i, i < w.heap.size → i ≠ b → u.ownBlock ≠ some i → w1.heap[i]? = w.heap[i]?) :
  RC ((w1.setCell ⟨j, 0, none⟩ (.int .i64 R.2.err)).setCell ⟨j, 1, none⟩ (.int .i64 R.2.ver)) j R.2 ∧ OpAns B b s R u v w (.returned (.agg #[.int .i64 R.2.err, .int .i64 R.2.ver])) ((w1.setCell ⟨j, 0, none⟩ (.int .i64 R.2.err)).setCell ⟨j, 1, none⟩ (.int .i64 R.2.ver)) := by
 refine ⟨hr.set R.2, rfl, ⟨a, c, h.res hr R.2⟩, (hb.setCell (p := ⟨j, 0, none⟩) (by show B ≤ j; omega) _).setCell (p := ⟨j, 1, none⟩) (by show B ≤ j; omega) _, fun i hi hne hu => ?_⟩
 have hij : i ≠ j := by omega
 rw [Below.heap_setCell _ _ _ _ hij, Below.heap_setCell _ _ _ _ hij]
 exact hk i hi hne hu
theorem addK_len (l : List En) (k : Nat) (e : En) (x : Ve) : (addK l k e x).1.length = l.length := by
 unfold addK
 split
 ·simp
 ·rfl
theorem own_ne {w : World} {B j : Nat} {u : Value} {l : List En} (h : EOwn w B u l) (hj : w.heap.size ≤ j) : u.ownBlock ≠ some j := fun e => by
 have := (h.lt e).2
 omega
theorem put_there (s : Bk) (u v : Value) (B b k : Nat) (e : En) (d : De) (w : World) (h : SO w B b s u v) (he : s.l[k]? = some e) (hv : e.vs.length ≤ 1000000) (hbd : ∀ x ∈ e.vs, x.body.size ≤ 1000000) (ht : TzAt w) (hBw : B ≤ w.heap.size) :
  Calls Tryz.prog 66 #[.pointer (some ⟨b, 0, none⟩), .int .i64 k, .bool true, dagg d] w (OpAns B b s (if holdsE e.vs d.cond d.tag then addK s.l k e ⟨s.seq, false, d.body⟩ else (s.l, ⟨9, 0⟩)) u v w) := by
 have hkl : k < s.l.length := (List.getElem?_eq_some_iff.1 he).1
 have hkz : (k : Int) < (s.l.length : Int) := by omega
 obtain ⟨ad, cap, rfl, _⟩ := h.es.at.shape
 obtain ⟨ad', cap', rfl, _⟩ := h.ms.at.shape
 obtain ⟨g, o, a, m, rfl, d0, d1, hg, hvs⟩ := h.es.at.get he
 have hbw := h.bc.lt
 have hbw1 : b < w.heap.size + 1 := by omega
 have hbw2 : b < w.heap.size + 1 + 1 := by omega
 have hgw1 : g < w.heap.size + 1 := by omega
 have hgw2 : g < w.heap.size + 1 + 1 := by omega
 have HNB := Lib.hid (show w.heap.size ≠ b by omega)
 have HNB1 := Lib.hid (show w.heap.size + 1 ≠ b by omega)
 have HG := Lib.hid hg
 have HH := Lib.hid (fun W (hW : Below w.heap.size w W) => holds_p e.key _ e.vs d.cond d.tag W (hvs.below hW) hv hbd (ht.below hW))
 have HA := Lib.hid (fun W hW => badd_p s (.slice (some ⟨g, o, none⟩) s.l.length cap) (.slice ad' s.ms.length cap') B b k e ⟨s.seq, false, d.body⟩ W hW he hv)
 have HRL := Lib.hid (addK_len s.l k e ⟨s.seq, false, d.body⟩)
 have HSO := Lib.hid h
 have HBw := Lib.hid hBw
 obtain ⟨_, q1, _, _, _, _, _, _⟩ := h.bc.cells
 have HW0 : Hid (∀ W, W = (((w.alloc (.cells #[.int .i64 d.kind, .string d.key, .string d.body, .int .i64 d.ver, .int .i64 d.cond, .string d.tag, .int .i64 d.req, .int .i64 d.low] 35)).alloc (.cells #[.int .i64 0, .int .i64 0] 30)).alloc (.cells #[.string e.key, .slice a e.vs.length m] 45)) → Below w.heap.size w W ∧ DB W w.heap.size d ∧ RC W (w.heap.size + 1) ⟨0, 0⟩ ∧ W.heap[w.heap.size + 2]? = some (.cells #[.string e.key, .slice a e.vs.length m] 45 (0, 0)) ∧ w.heap.size + 3 ≤ W.heap.size) := Lib.hid (by
  rintro _ rfl
  refine ⟨(((Below.refl _ w).alloc (Nat.le_refl _) _).alloc (by simp) _).alloc (by simp; omega) _, ?_, ?_, ?_, by simp⟩
  ·unfold DB
   rw [heap_alloc_old _ _ (by simp; omega), heap_alloc_old _ _ (by simp), heap_alloc_new]
  ·unfold RC
   rw [heap_alloc_old _ _ (by simp)]
   have := heap_alloc_new (w.alloc (.cells #[.int .i64 d.kind, .string d.key, .string d.body, .int .i64 d.ver, .int .i64 d.cond, .string d.tag, .int .i64 d.req, .int .i64 d.low] 35)) (.cells #[.int .i64 0, .int .i64 0] 30)
   simpa using this
  ·have := heap_alloc_new ((w.alloc (.cells #[.int .i64 d.kind, .string d.key, .string d.body, .int .i64 d.ver, .int .i64 d.cond, .string d.tag, .int .i64 d.req, .int .i64 d.low] 35)).alloc (.cells #[.int .i64 0, .int .i64 0] 30)) (.cells #[.string e.key, .slice a e.vs.length m] 45)
   simpa using this)
 generalize addK s.l k e ⟨s.seq, false, d.body⟩ = R at *
 generalize holdsE e.vs d.cond d.tag = H at *
 obtain ⟨R0, hR0⟩ : ∃ R0, (if H = true then R else (s.l, ⟨9, 0⟩)) = R0 := ⟨_, rfl⟩
 rw [hR0]
 have HR0 := Lib.hid hR0
 clear hR0
 clear h he hv hbd ht hvs hkl hBw
 unfold dagg
 go_enter Tryz.func66, Tryz.ntmps66
 go_wp2_with fail
 generalize (((w.alloc (.cells #[.int .i64 d.kind, .string d.key, .string d.body, .int .i64 d.ver, .int .i64 d.cond, .string d.tag, .int .i64 d.req, .int .i64 d.low] 35)).alloc (.cells #[.int .i64 0, .int .i64 0] 30)).alloc (.cells #[.string e.key, .slice a e.vs.length m] 45)) = W at *
 obtain ⟨hbW, hdW, hrW, _, hsW⟩ := HW0.out W rfl
 refine (HH.out W hbW).mono ?_
 rintro _ w1 ⟨rfl, hb1⟩
 have HB1 := Lib.hid (hbW.trans (hb1.mono hbW.size))
 have HD1 := Lib.hid (hdW.below hb1)
 have HR1 := Lib.hid (hrW.below hb1)
 clear hbW hdW hrW hb1 HW0 q1 d0 d1
 cases H with
 | false =>
  obtain rfl : R0 = (s.l, ⟨9, 0⟩) := by rw [← HR0.out]; rfl
  go_wp2_with fail
  refine (failed_p 9 _).mono ?_
  rintro _ w2 ⟨rfl, hb2⟩
  have hbb := HB1.out.trans (hb2.mono HB1.out.size)
  have hrc := HR1.out.below hb2
  obtain ⟨x0, x1, xf0, xf1⟩ := hrc.facts
  try dsimp only at x0 x1
  obtain ⟨hrf, hans⟩ := op_ans (w := w) (R := (s.l, ⟨9, 0⟩)) (u := .slice (some ⟨g, o, none⟩) s.l.length cap) (HSO.out.below hbb) hrc (Nat.le_succ _) HBw.out (hbb.mono HBw.out) (fun i hi _ _ => hbb.block i hi)
  obtain ⟨t0, t1, _⟩ := hrf.facts
  try dsimp only at t0 t1 hans
  have HANS := Lib.hid hans
  clear hb2 hbb hans
  go_wp2_with fail
  exact bodyPost_ret (v := .agg #[.int .i64 9, .int .i64 0]) (by simp [results, Tryz.results66, go_sem, t0, t1]) rfl HANS.out
 | true =>
  obtain rfl : R = R0 := by rw [← HR0.out]; rfl
  have HSO1 := Lib.hid (HSO.out.below HB1.out)
  have HBB := Lib.hid (HB1.out.mono HBw.out)
  obtain ⟨q0, _, _, _, _, _, _, _⟩ := HSO1.out.bc.cells
  obtain ⟨_, _, e2, _, _, _, _, _⟩ := HD1.out.cells
  try dsimp only at q0
  go_wp2_with fail
  have hS0 : w1.drew.cell? ⟨b, 0, none⟩ = some (.int .i64 s.seq) ∧ w1.drew.cell? ⟨w.heap.size, 2, none⟩ = some (.string d.body) := ⟨q0, e2⟩
  refine wp_region_last (S := fun W' => W'.cell? ⟨b, 0, none⟩ = some (.int .i64 s.seq) ∧ W'.cell? ⟨w.heap.size, 2, none⟩ = some (.string d.body)) (by kernel_rfl) (ops := List.toArray [_, _, _, _, _, _, _, _, _, _]) (o := _) rfl (by kernel_rfl) ?_
  refine tk 0 (.pointer (some ⟨b, 0, none⟩)) rfl ?_ hS0 ?_
  ·intro w' ⟨s0, s1⟩; go_simp
  refine tk 1 (.int .i64 k) rfl ?_ hS0 ?_
  ·intro w' ⟨s0, s1⟩; go_simp
  refine tk 2 (.pointer (some ⟨b, 0, none⟩)) rfl ?_ hS0 ?_
  ·intro w' ⟨s0, s1⟩; go_simp
  refine tk 3 (.pointer (some ⟨b, 0, none⟩)) rfl ?_ hS0 ?_
  ·intro w' ⟨s0, s1⟩; go_simp
  refine tk 4 (.pointer (some ⟨b, 0, none⟩)) rfl ?_ hS0 ?_
  ·intro w' ⟨s0, s1⟩; go_simp
  refine tk 5 (.int .i64 s.seq) rfl ?_ hS0 ?_
  ·intro w' ⟨s0, s1⟩; go_simp
  refine tk 6 (.pointer (some ⟨w.heap.size, 2, none⟩)) rfl ?_ hS0 ?_
  ·intro w' ⟨s0, s1⟩; go_simp
  refine tk 7 (.string d.body) rfl ?_ hS0 ?_
  ·intro w' ⟨s0, s1⟩; go_simp
  refine tk 8 (.agg #[.int .i64 s.seq, .bool false, .string d.body]) rfl ?_ hS0 ?_
  ·intro w' ⟨s0, s1⟩; go_simp
  simp only [List.getElem_toArray, List.getElem_cons_succ, List.getElem_cons_zero, Act.put, List.setIfInBounds_toArray, List.set_cons_zero, List.set_cons_succ]
  clear hS0 q0 e2
  refine wpAnyH_ready (rs := [9]) (by kernel_rfl) (by simp) ?_
  refine AllReadyH.cons rfl (fun K hK => ?_) AllReadyH.nil
  simp only [List.getElem_toArray, List.getElem_cons_succ, List.getElem_cons_zero]
  go_simp
  refine (HA.out w1.drew (HSO1.out.below (Below.refl _ _).drew)).mono ?_
  rintro _ y1 ⟨rfl, hso, hb1, hk1⟩
  have hkk : ∀ j, j < w1.heap.size → j ≠ b → (Value.slice (some ⟨g, o, none⟩) s.l.length cap).ownBlock ≠ some j → y1.heap[j]? = w1.heap[j]? := fun j hj h1 h2 => hk1 j hj h1 h2
  have hd1 : y1.heap[w.heap.size]? = w1.heap[w.heap.size]? := hkk _ HD1.out.lt HNB.out (by exact own_ne HSO.out.es (Nat.le_refl _))
  have hr1 : y1.heap[w.heap.size + 1]? = w1.heap[w.heap.size + 1]? := hkk _ HR1.out.lt HNB1.out (by exact own_ne HSO.out.es (Nat.le_succ _))
  have hDB : DB y1 w.heap.size d := hd1.trans HD1.out
  have hRC : RC y1 (w.heap.size + 1) ⟨0, 0⟩ := hr1.trans HR1.out
  obtain ⟨q0, _, _, _, _, _, _, _⟩ := hso.bc.cells
  obtain ⟨_, _, e2, _, _, _, _, _⟩ := hDB.cells
  try dsimp only at q0
  refine hK.out _ _ ⟨q0, e2⟩ (fun _ => ?_)
  clear hK
  refine wpAnyH_done (by kernel_rfl) ?_ _
  obtain ⟨x0, x1, xf0, xf1⟩ := hRC.facts
  try dsimp only at x0 x1
  have hbw : Below B w y1 := HBB.out.drew.trans hb1
  have hlt1 := hRC.lt
  have hso2 := hso
  rw [← HRL.out] at hso2
  obtain ⟨hrf, hans⟩ := op_ans (w := w) (R := R) (u := .slice (some ⟨g, o, none⟩) s.l.length cap) hso2 hRC (Nat.le_succ _) HBw.out hbw (fun i hi h1 h2 => (hkk i (Nat.lt_of_lt_of_le hi HB1.out.size) h1 h2).trans (HB1.out.block i hi))
  clear hso2
  obtain ⟨t0, t1, _⟩ := hrf.facts
  have HANS := Lib.hid hans
  clear hans hbw hk1 hkk hd1 hr1 hDB hso hb1 q0 e2
  rw [Exit.then]
  rw [if_pos (by rfl)]
  go_simp
  go_wp2_with fail
  exact bodyPost_ret (v := .agg #[.int .i64 R.2.err, .int .i64 R.2.ver]) (by simp [results, Tryz.results66, go_sem, t0, t1]) rfl HANS.out
theorem EOwn.insert {z z2 : World} {B k : Nat} {u : Value} {l : List En} {key : ByteArray} {ps : List (ByteArray × Value)} {a : Option Addr} {c : Nat} (hrow : z.ownsRow B 45 2 u l.length (ecells ps)) (hf : Fit (VOwn z B) l ps) (hk : k ≤ l.length)
  (ho : z2.ownsRow B 45 2 (.slice a (l.length + 1) c) (l.length + 1) ((ecells ps).take (k * 2) ++ [.string key, .slice none 0 0] ++ (ecells ps).drop (k * 2))) (hkp : ∀ j, j < z.heap.size → u.ownBlock ≠ some j → z2.heap[j]? = z.heap[j]?) :
  EOwn z2 B (.slice a (l.length + 1) c) (l.take k ++ [⟨key, []⟩] ++ l.drop k) := by
 have hv : ∀ x m, VOwn z B x m → VOwn z2 B x m := fun x m hx => hx.kept (fun g hg => hkp g (hx.lt hg).2 (rows_apart (T := 55) hx hrow (by decide) hg))
 have hf2 := hf.map hv
 refine ⟨ps.take k ++ [(key, .slice none 0 0)] ++ ps.drop k, ?_, Fit.append (Fit.append (hf2.take k) ⟨rfl, (show VOwn z2 B (.slice none 0 0) [] from World.ownsRow_nil _ _ _ _), trivial⟩) (hf2.drop k)⟩
 have hlen : (l.take k ++ [(⟨key, []⟩ : En)] ++ l.drop k).length = l.length + 1 := by
  rw [List.length_append, List.length_append, List.length_take, List.length_drop, List.length_singleton]
  omega
 rw [hlen, ecells_append, ecells_append, ← ecells_take, ← ecells_drop]
 exact ho
theorem insert_len (l : List En) (k : Nat) (e : En) (hk : k ≤ l.length) : (l.take k ++ [e] ++ l.drop k).length = l.length + 1 := by
 rw [List.length_append, List.length_append, List.length_take, List.length_drop, List.length_singleton]
 omega
theorem insert_at (l : List En) (k : Nat) (e : En) (hk : k ≤ l.length) : (l.take k ++ [e] ++ l.drop k)[k]? = some e := by
 rw [List.append_assoc, List.getElem?_append_right (by rw [List.length_take]; omega), List.length_take, Nat.min_eq_left hk, Nat.sub_self]
 rfl
theorem SO.entries {w : World} {B b : Nat} {s : Bk} {u v u' : Value} {l' : List En} (hb : BC w b s u v) (he : EOwn w B u' l') (hm : MOwn w B v s.ms) (hlo : B ≤ b) : SO (w.setCell ⟨b, 1, none⟩ u') B b { s with l := l' } u' v := by
 refine ⟨?_, he.off hb (by decide) (by decide), hm.off hb (by decide), hlo⟩
 have := heap_setCell_same w b 1 _ _ u' hb
 unfold BC
 rw [this]
 rfl
theorem put_new (s : Bk) (u v : Value) (B b k : Nat) (d : De) (w : World) (h : SO w B b s u v) (hk : k ≤ s.l.length) (hn : s.l.length ≤ 1000000) (ht : TzAt w) (hBw : B ≤ w.heap.size) :
  Calls Tryz.prog 66 #[.pointer (some ⟨b, 0, none⟩), .int .i64 k, .bool false, dagg d] w (OpAns B b s (if holdsE [] d.cond d.tag then (if s.l.length = 40 then (s.l, ⟨5, 0⟩) else addK (s.l.take k ++ [⟨d.key, []⟩] ++ s.l.drop k) k ⟨d.key, []⟩ ⟨s.seq, false, d.body⟩) else (s.l, ⟨9, 0⟩)) u v w) := by
 obtain ⟨ad, cap, rfl, _⟩ := h.es.at.shape
 obtain ⟨ad', cap', rfl, _⟩ := h.ms.at.shape
 have hbw := h.bc.lt
 have hbw1 : b < w.heap.size + 1 := by omega
 have hbw2 : b < w.heap.size + 1 + 1 := by omega
 have HNB := Lib.hid (show w.heap.size ≠ b by omega)
 have HNB1 := Lib.hid (show w.heap.size + 1 ≠ b by omega)
 have HNB2 := Lib.hid (show b ≠ w.heap.size + 1 + 1 by omega)
 have HH := Lib.hid (fun W (hW : Below w.heap.size w W) => holds_p d.key (.slice none 0 0) [] d.cond d.tag W (.inl ⟨rfl, rfl⟩) (by decide) (fun _ h => (by cases h)) (ht.below hW))
 have HKL := Lib.hid (And.intro hk hn)
 have HA := Lib.hid (fun u2 W hW => badd_p { s with l := s.l.take k ++ [⟨d.key, []⟩] ++ s.l.drop k } u2 (.slice ad' s.ms.length cap') B b k ⟨d.key, []⟩ ⟨s.seq, false, d.body⟩ W hW (insert_at s.l k ⟨d.key, []⟩ hk) (Nat.zero_le _))
 have HRL := Lib.hid ((addK_len (s.l.take k ++ [⟨d.key, []⟩] ++ s.l.drop k) k ⟨d.key, []⟩ ⟨s.seq, false, d.body⟩).trans (insert_len s.l k _ hk))
 have HSO := Lib.hid h
 have HBw := Lib.hid hBw
 have HW0 : Hid (∀ W, W = (((w.alloc (.cells #[.int .i64 d.kind, .string d.key, .string d.body, .int .i64 d.ver, .int .i64 d.cond, .string d.tag, .int .i64 d.req, .int .i64 d.low] 35)).alloc (.cells #[.int .i64 0, .int .i64 0] 30)).alloc (.cells #[.string d.key, .slice none 0 0] 45)) → Below w.heap.size w W ∧ DB W w.heap.size d ∧ RC W (w.heap.size + 1) ⟨0, 0⟩ ∧ W.heap[w.heap.size + 2]? = some (.cells #[.string d.key, .slice none 0 0] 45 (0, 0)) ∧ w.heap.size + 3 ≤ W.heap.size) := Lib.hid (by
  rintro _ rfl
  refine ⟨(((Below.refl _ w).alloc (Nat.le_refl _) _).alloc (by simp) _).alloc (by simp; omega) _, ?_, ?_, ?_, by simp⟩
  ·unfold DB
   rw [heap_alloc_old _ _ (by simp; omega), heap_alloc_old _ _ (by simp), heap_alloc_new]
  ·unfold RC
   rw [heap_alloc_old _ _ (by simp)]
   have := heap_alloc_new (w.alloc (.cells #[.int .i64 d.kind, .string d.key, .string d.body, .int .i64 d.ver, .int .i64 d.cond, .string d.tag, .int .i64 d.req, .int .i64 d.low] 35)) (.cells #[.int .i64 0, .int .i64 0] 30)
   simpa using this
  ·have := heap_alloc_new ((w.alloc (.cells #[.int .i64 d.kind, .string d.key, .string d.body, .int .i64 d.ver, .int .i64 d.cond, .string d.tag, .int .i64 d.req, .int .i64 d.low] 35)).alloc (.cells #[.int .i64 0, .int .i64 0] 30)) (.cells #[.string d.key, .slice none 0 0] 45)
   simpa using this)
 dsimp only at HA
 generalize addK (s.l.take k ++ [⟨d.key, []⟩] ++ s.l.drop k) k ⟨d.key, []⟩ ⟨s.seq, false, d.body⟩ = R at *
 generalize holdsE [] d.cond d.tag = H at *
 obtain ⟨R0, hR0⟩ : ∃ R0, (if H = true then (if s.l.length = 40 then (s.l, (⟨5, 0⟩ : Rs)) else R) else (s.l, ⟨9, 0⟩)) = R0 := ⟨_, rfl⟩
 rw [hR0]
 have HR0 := Lib.hid hR0
 clear hR0 h ht hBw hk hn
 unfold dagg
 go_enter Tryz.func66, Tryz.ntmps66
 go_wp2_with fail
 generalize (((w.alloc (.cells #[.int .i64 d.kind, .string d.key, .string d.body, .int .i64 d.ver, .int .i64 d.cond, .string d.tag, .int .i64 d.req, .int .i64 d.low] 35)).alloc (.cells #[.int .i64 0, .int .i64 0] 30)).alloc (.cells #[.string d.key, .slice none 0 0] 45)) = W at *
 obtain ⟨hbW, hdW, hrW, heW, hsW⟩ := HW0.out W rfl
 refine (HH.out W hbW).mono ?_
 rintro _ w1 ⟨rfl, hb1⟩
 have HB1 := Lib.hid (hbW.trans (hb1.mono hbW.size))
 have HD1 := Lib.hid (hdW.below hb1)
 have HR1 := Lib.hid (hrW.below hb1)
 have HE1 : Hid (w1.heap[w.heap.size + 1 + 1]? = some (.cells #[.string d.key, .slice none 0 0] 45 (0, 0))) := Lib.hid ((hb1.block (w.heap.size + 2) (by omega)).trans heW)
 have hsw1 : w.heap.size + 3 ≤ w1.heap.size := Nat.le_trans hsW hb1.size
 clear hbW hdW hrW heW hb1 HW0 hsW
 cases H with
 | false =>
  obtain rfl : R0 = (s.l, ⟨9, 0⟩) := by rw [← HR0.out]; rfl
  go_wp2_with fail
  refine (failed_p 9 _).mono ?_
  rintro _ w2 ⟨rfl, hb2⟩
  have hbb := HB1.out.trans (hb2.mono HB1.out.size)
  have hrc := HR1.out.below hb2
  obtain ⟨x0, x1, xf0, xf1⟩ := hrc.facts
  try dsimp only at x0 x1
  obtain ⟨hrf, hans⟩ := op_ans (w := w) (R := (s.l, ⟨9, 0⟩)) (u := .slice ad s.l.length cap) (HSO.out.below hbb) hrc (Nat.le_succ _) HBw.out (hbb.mono HBw.out) (fun i hi _ _ => hbb.block i hi)
  obtain ⟨t0, t1, _⟩ := hrf.facts
  try dsimp only at t0 t1 hans
  have HANS := Lib.hid hans
  clear hb2 hbb hans
  go_wp2_with fail
  exact bodyPost_ret (v := .agg #[.int .i64 9, .int .i64 0]) (by simp [results, Tryz.results66, go_sem, t0, t1]) rfl HANS.out
 | true =>
  have HSO1 := Lib.hid (HSO.out.below HB1.out)
  obtain ⟨_, q1, _, _, _, _, _, _⟩ := HSO1.out.bc.cells
  by_cases h40 : s.l.length = 40
  ·obtain rfl : R0 = (s.l, ⟨5, 0⟩) := by rw [← HR0.out, if_pos rfl, if_pos h40]
   have hL : ((s.l.length : Int) == 40) = true := by simp [h40]
   clear h40
   go_wp2_with fail
   refine (failed_p 5 _).mono ?_
   rintro _ w2 ⟨rfl, hb2⟩
   have hbb := HB1.out.trans (hb2.mono HB1.out.size)
   have hrc := HR1.out.below hb2
   obtain ⟨x0, x1, xf0, xf1⟩ := hrc.facts
   try dsimp only at x0 x1
   obtain ⟨hrf, hans⟩ := op_ans (w := w) (R := (s.l, ⟨5, 0⟩)) (u := .slice ad s.l.length cap) (HSO.out.below hbb) hrc (Nat.le_succ _) HBw.out (hbb.mono HBw.out) (fun i hi _ _ => hbb.block i hi)
   obtain ⟨t0, t1, _⟩ := hrf.facts
   try dsimp only at t0 t1 hans
   have HANS := Lib.hid hans
   clear hb2 hbb hans
   go_wp2_with fail
   exact bodyPost_ret (v := .agg #[.int .i64 5, .int .i64 0]) (by simp [results, Tryz.results66, go_sem, t0, t1]) rfl HANS.out
  ·obtain rfl : R = R0 := by rw [← HR0.out, if_pos rfl, if_neg h40]
   have hL : ((s.l.length : Int) == 40) = false := by rw [beq_eq_false_iff_ne]; omega
   clear h40 HR0
   obtain ⟨_, ef, _, _, ec⟩ := block_facts HE1.out
   have e0 := ec 0 _ rfl
   have e1 := ec 1 _ rfl
   clear ec ef
   go_wp2_with fail
   have HS : Hid (∀ W', Below w1.heap.size w1 W' → W'.cell? ⟨b, 1, none⟩ = some (.slice ad s.l.length cap) ∧ W'.cell? ⟨w.heap.size + 1 + 1, 0, none⟩ = some (.string d.key) ∧ W'.cell? ⟨w.heap.size + 1 + 1, 1, none⟩ = some (.slice none 0 0)) := Lib.hid (fun W' hW => ⟨cell_kept hW (Nat.le_refl _) q1, cell_kept hW (Nat.le_refl _) e0, cell_kept hW (Nat.le_refl _) e1⟩)
   have hS0 := HS.out _ (Below.refl w1.heap.size w1).drew
   refine wp_region_last (S := fun W' => W'.cell? ⟨b, 1, none⟩ = some (.slice ad s.l.length cap) ∧ W'.cell? ⟨w.heap.size + 1 + 1, 0, none⟩ = some (.string d.key) ∧ W'.cell? ⟨w.heap.size + 1 + 1, 1, none⟩ = some (.slice none 0 0)) (by kernel_rfl) (ops := List.toArray [_, _, _, _, _, _, _, _, _, _, _]) (o := _) rfl (by kernel_rfl) ?_
   refine tk 0 (.pointer (some ⟨b, 0, none⟩)) rfl ?_ hS0 ?_
   ·intro w' ⟨s0, s1, s2⟩; go_simp
   refine tk 1 (.pointer (some ⟨b, 0, none⟩)) rfl ?_ hS0 ?_
   ·intro w' ⟨s0, s1, s2⟩; go_simp
   refine tk 2 (.pointer (some ⟨b, 0, none⟩)) rfl ?_ hS0 ?_
   ·intro w' ⟨s0, s1, s2⟩; go_simp
   refine tk 3 (.pointer (some ⟨b, 1, none⟩)) rfl ?_ hS0 ?_
   ·intro w' ⟨s0, s1, s2⟩; go_simp
   refine tk 4 (.slice ad s.l.length cap) rfl ?_ hS0 ?_
   ·intro w' ⟨s0, s1, s2⟩; go_simp
   refine tk 5 (.int .i64 k) rfl ?_ hS0 ?_
   ·intro w' ⟨s0, s1, s2⟩; go_simp
   refine tk 6 (.agg #[.string d.key, .slice none 0 0]) rfl ?_ hS0 ?_
   ·intro w' ⟨s0, s1, s2⟩; go_simp
   simp only [List.getElem_toArray, List.getElem_cons_succ, List.getElem_cons_zero, Act.put, List.setIfInBounds_toArray, List.set_cons_zero, List.set_cons_succ]
   clear hS0 q1 e0 e1
   refine wpAnyH_ready (rs := [7]) (by kernel_rfl) (by simp) ?_
   refine AllReadyH.cons rfl (fun K hK => ?_) AllReadyH.nil
   simp only [List.getElem_toArray, List.getElem_cons_succ, List.getElem_cons_zero]
   go_simp
   have HBZ : Hid (Below w1.heap.size w1 ((w1.alloc (.cells #[.string d.key, .slice none 0 0] 45)).drew)) := Lib.hid ((Below.refl _ _).alloc (Nat.le_refl _) _).drew
   have HZ : Hid (((w1.alloc (.cells #[.string d.key, .slice none 0 0] 45)).drew).heap[w1.heap.size]? = some (.cells #[.string d.key, .slice none 0 0] 45 (0, 0))) := Lib.hid (heap_alloc_new w1 (.cells #[.string d.key, .slice none 0 0] 45))
   have hzs : ((w1.alloc (.cells #[.string d.key, .slice none 0 0] 45)).drew).heap.size = w1.heap.size + 1 := by
    have : ((w1.alloc (.cells #[.string d.key, .slice none 0 0] 45)).drew).heap.size = (w1.alloc (.cells #[.string d.key, .slice none 0 0] 45)).heap.size := rfl
    rw [this]; simp
   have HZS := Lib.hid hzs
   refine hK.out _ _ (HS.out _ HBZ.out) (fun _ => ?_)
   clear hK hzs
   generalize (w1.alloc (.cells #[.string d.key, .slice none 0 0] 45)).drew = z at *
   refine wpAnyH_ready (rs := [8]) (by kernel_rfl) (by simp) ?_
   refine AllReadyH.cons rfl (fun K hK => ?_) AllReadyH.nil
   simp only [List.getElem_toArray, List.getElem_cons_succ, List.getElem_cons_zero]
   go_simp
   have HSOZ := Lib.hid (HSO1.out.below HBZ.out)
   obtain ⟨ps, hrow, hfit⟩ := HSOZ.out.es
   have HRW := Lib.hid (And.intro hrow hfit)
   have hBz : B ≤ z.heap.size := by have := HBw.out; have := HZS.out; omega
   refine (ent_insert_p B _ s.l.length k w1.heap.size (ecells ps) [.string d.key, .slice none 0 0] 45 z hrow HKL.out.1 HKL.out.2 HZ.out rfl (Fit.one (fun _ _ h => h.one) hfit) (fun u hu => by simp at hu; rcases hu with rfl | rfl <;> rfl) (own_ne HSO1.out.es (Nat.le_refl _)) hBz).mono ?_
   rintro _ z2 ⟨a2, c2, rfl, ho2, hb2, hk2, hl2⟩
   have heo := EOwn.insert HRW.out.1 HRW.out.2 HKL.out.1 ho2 hk2
   have hob : (Value.slice ad s.l.length cap).ownBlock ≠ some b := row_off hrow HSOZ.out.bc (by decide)
   have hbc2 : BC z2 b s (.slice ad s.l.length cap) (.slice ad' s.ms.length cap') := (hk2 b (HSOZ.out.bc.lt) hob).trans HSOZ.out.bc
   have hms2 : MOwn z2 B (.slice ad' s.ms.length cap') s.ms := row_kept HSOZ.out.ms (fun g hg => hk2 g (World.ownsRow.lt HSOZ.out.ms g hg).2 (fun e => rows_apart (T := 45) hrow HSOZ.out.ms (by decide) e hg))
   have hold : ∀ j, w.heap.size ≤ j → j < w1.heap.size → z2.heap[j]? = w1.heap[j]? := fun j h1 h2 => (hk2 j (by have := HZS.out; omega) (own_ne HSO.out.es h1)).trans (HBZ.out.block j h2)
   have HSO3 := Lib.hid (SO.entries hbc2 heo hms2 HSO.out.lo)
   have HOLD := Lib.hid hold
   have HK2 : Hid (∀ i, i < w.heap.size → i ≠ b → (Value.slice ad s.l.length cap).ownBlock ≠ some i → z2.heap[i]? = w.heap[i]?) := Lib.hid (fun i h1 _ h3 => (hk2 i (by have := HZS.out; omega) h3).trans ((HBZ.out.block i (by omega)).trans (HB1.out.block i h1)))
   have HL2 : Hid (∀ j, j < w1.heap.size → (Value.slice a2 (s.l.length + 1) c2).ownBlock = some j → (Value.slice ad s.l.length cap).ownBlock = some j) := Lib.hid (fun j hj e => (hl2 j e).resolve_right (by have := HZS.out; omega))
   have HBB2 := Lib.hid ((HB1.out.mono HBw.out).trans ((HBZ.out.mono (by have := HBw.out; omega)).trans hb2))
   obtain ⟨_, q1, _, _, _, _, _, _⟩ := hbc2.cells
   have qf := hbc2.free 1
   have hlt2 := hbc2.lt
   have hs2 : w.heap.size + 3 ≤ z2.heap.size := by have := hb2.size; have := HZS.out; omega
   have h2e : z2.heap[w.heap.size + 1 + 1]? = w1.heap[w.heap.size + 1 + 1]? := hold _ (by omega) (by omega)
   obtain ⟨_, _, _, _, ec⟩ := block_facts (h2e.trans HE1.out)
   have hS2 : z2.cell? ⟨b, 1, none⟩ = some (.slice ad s.l.length cap) ∧ z2.cell? ⟨w.heap.size + 1 + 1, 0, none⟩ = some (.string d.key) ∧ z2.cell? ⟨w.heap.size + 1 + 1, 1, none⟩ = some (.slice none 0 0) := ⟨q1, ec 0 _ rfl, ec 1 _ rfl⟩
   clear ho2 hb2 hk2 hl2 heo hob hbc2 hms2 hold hrow hfit HRW h2e ec
   refine hK.out _ _ hS2 (fun _ => ?_)
   clear hK
   refine tk 9 (.pointer (some ⟨b, 0, none⟩)) rfl ?_ hS2 ?_
   ·intro w' ⟨s0, s1, s2⟩; go_simp
   simp only [List.getElem_toArray, List.getElem_cons_succ, List.getElem_cons_zero, Act.put, List.setIfInBounds_toArray, List.set_cons_zero, List.set_cons_succ]
   refine tk 10 (.pointer (some ⟨b, 1, none⟩)) rfl ?_ hS2 ?_
   ·intro w' ⟨s0, s1, s2⟩; go_simp
   simp only [List.getElem_toArray, List.getElem_cons_succ, List.getElem_cons_zero, Act.put, List.setIfInBounds_toArray, List.set_cons_zero, List.set_cons_succ]
   clear hS2
   refine wpAnyH_done (by kernel_rfl) ?_ _
   rw [Exit.then]
   rw [if_pos (by rfl)]
   go_simp
   have HD3 : Hid (DB (z2.setCell ⟨b, 1, none⟩ (.slice a2 (s.l.length + 1) c2)) w.heap.size d) := Lib.hid (by
    unfold DB
    rw [Below.heap_setCell _ _ _ _ HNB.out, HOLD.out _ (Nat.le_refl _) (by omega)]
    exact HD1.out)
   have HR3 : Hid (RC (z2.setCell ⟨b, 1, none⟩ (.slice a2 (s.l.length + 1) c2)) (w.heap.size + 1) ⟨0, 0⟩) := Lib.hid (by
    unfold RC
    rw [Below.heap_setCell _ _ _ _ HNB1.out, HOLD.out _ (by omega) (by omega)]
    exact HR1.out)
   have HBB : Hid (Below B w (z2.setCell ⟨b, 1, none⟩ (.slice a2 (s.l.length + 1) c2))) := Lib.hid (HBB2.out.setCell (p := ⟨b, 1, none⟩) HSO.out.lo _)
   have HK3 : Hid (∀ i, i < w.heap.size → i ≠ b → (Value.slice ad s.l.length cap).ownBlock ≠ some i → (z2.setCell ⟨b, 1, none⟩ (.slice a2 (s.l.length + 1) c2)).heap[i]? = w.heap[i]?) := Lib.hid (fun i h1 h2 h3 => by
    rw [Below.heap_setCell _ _ _ _ h2]
    exact HK2.out i h1 h2 h3)
   have hs3 : (z2.setCell ⟨b, 1, none⟩ (.slice a2 (s.l.length + 1) c2)).heap.size = z2.heap.size := by simp
   have HS3 := Lib.hid hs3
   clear HD1 HR1 q1 qf hs3
   have HD1 := HD3
   have HR1 := HR3
   clear HD3 HR3
   obtain ⟨q0, _, _, _, _, _, _, _⟩ := HSO3.out.bc.cells
   obtain ⟨_, _, e2, _, _, _, _, _⟩ := HD1.out.cells
   try dsimp only at q0
   go_wp2_with fail
   generalize z2.setCell ⟨b, 1, none⟩ (.slice a2 (s.l.length + 1) c2) = z3 at *
   have hS0 : z3.drew.cell? ⟨b, 0, none⟩ = some (.int .i64 s.seq) ∧ z3.drew.cell? ⟨w.heap.size, 2, none⟩ = some (.string d.body) := ⟨q0, e2⟩
   refine wp_region_last (S := fun W' => W'.cell? ⟨b, 0, none⟩ = some (.int .i64 s.seq) ∧ W'.cell? ⟨w.heap.size, 2, none⟩ = some (.string d.body)) (by kernel_rfl) (ops := List.toArray [_, _, _, _, _, _, _, _, _, _]) (o := _) rfl (by kernel_rfl) ?_
   refine tk 0 (.pointer (some ⟨b, 0, none⟩)) rfl ?_ hS0 ?_
   ·intro w' ⟨s0, s1⟩; go_simp
   refine tk 1 (.int .i64 k) rfl ?_ hS0 ?_
   ·intro w' ⟨s0, s1⟩; go_simp
   refine tk 2 (.pointer (some ⟨b, 0, none⟩)) rfl ?_ hS0 ?_
   ·intro w' ⟨s0, s1⟩; go_simp
   refine tk 3 (.pointer (some ⟨b, 0, none⟩)) rfl ?_ hS0 ?_
   ·intro w' ⟨s0, s1⟩; go_simp
   refine tk 4 (.pointer (some ⟨b, 0, none⟩)) rfl ?_ hS0 ?_
   ·intro w' ⟨s0, s1⟩; go_simp
   refine tk 5 (.int .i64 s.seq) rfl ?_ hS0 ?_
   ·intro w' ⟨s0, s1⟩; go_simp
   refine tk 6 (.pointer (some ⟨w.heap.size, 2, none⟩)) rfl ?_ hS0 ?_
   ·intro w' ⟨s0, s1⟩; go_simp
   refine tk 7 (.string d.body) rfl ?_ hS0 ?_
   ·intro w' ⟨s0, s1⟩; go_simp
   refine tk 8 (.agg #[.int .i64 s.seq, .bool false, .string d.body]) rfl ?_ hS0 ?_
   ·intro w' ⟨s0, s1⟩; go_simp
   simp only [List.getElem_toArray, List.getElem_cons_succ, List.getElem_cons_zero, Act.put, List.setIfInBounds_toArray, List.set_cons_zero, List.set_cons_succ]
   clear hS0 q0 e2
   refine wpAnyH_ready (rs := [9]) (by kernel_rfl) (by simp) ?_
   refine AllReadyH.cons rfl (fun K hK => ?_) AllReadyH.nil
   simp only [List.getElem_toArray, List.getElem_cons_succ, List.getElem_cons_zero]
   go_simp
   refine (HA.out (.slice a2 (s.l.length + 1) c2) z3.drew (HSO3.out.below (Below.refl _ _).drew)).mono ?_
   rintro _ y1 ⟨rfl, hso, hb1, hk1⟩
   have hkk : ∀ j, j < z3.heap.size → j ≠ b → (Value.slice a2 (s.l.length + 1) c2).ownBlock ≠ some j → y1.heap[j]? = z3.heap[j]? := fun j hj h1 h2 => hk1 j hj h1 h2
   have hd1 : y1.heap[w.heap.size]? = z3.heap[w.heap.size]? := hkk _ HD1.out.lt HNB.out (by exact fun e => own_ne HSO.out.es (Nat.le_refl _) (HL2.out _ (by omega) e))
   have hr1 : y1.heap[w.heap.size + 1]? = z3.heap[w.heap.size + 1]? := hkk _ HR1.out.lt HNB1.out (by exact fun e => own_ne HSO.out.es (Nat.le_succ _) (HL2.out _ (by omega) e))
   have hDB : DB y1 w.heap.size d := hd1.trans HD1.out
   have hRC : RC y1 (w.heap.size + 1) ⟨0, 0⟩ := hr1.trans HR1.out
   obtain ⟨q0, _, _, _, _, _, _, _⟩ := hso.bc.cells
   obtain ⟨_, _, e2, _, _, _, _, _⟩ := hDB.cells
   try dsimp only at q0
   refine hK.out _ _ ⟨q0, e2⟩ (fun _ => ?_)
   clear hK
   refine wpAnyH_done (by kernel_rfl) ?_ _
   obtain ⟨x0, x1, xf0, xf1⟩ := hRC.facts
   try dsimp only at x0 x1
   have hbw : Below B w y1 := HBB.out.drew.trans hb1
   have hlt1 := hRC.lt
   have hso2 := hso
   rw [← HRL.out] at hso2
   obtain ⟨hrf, hans⟩ := op_ans (w := w) (s := s) (R := R) (u := .slice ad s.l.length cap) hso2 hRC (Nat.le_succ _) HBw.out hbw (fun i hi h1 h2 => (hkk i (by have := HS3.out; omega) h1 (fun e => h2 (HL2.out i (by omega) e))).trans (HK3.out i hi h1 h2))
   clear hso2
   obtain ⟨t0, t1, _⟩ := hrf.facts
   have HANS := Lib.hid hans
   clear hans hbw hk1 hkk hd1 hr1 hDB hso hb1 q0 e2
   rw [Exit.then]
   rw [if_pos (by rfl)]
   go_simp
   go_wp2_with fail
   exact bodyPost_ret (v := .agg #[.int .i64 R.2.err, .int .i64 R.2.ver]) (by simp [results, Tryz.results66, go_sem, t0, t1]) rfl HANS.out
def StepAns (B b : Nat) (s' : Bk) (u v : Value) (w : World) (e : Ending) (w' : World) : Prop :=
 e = .returned (.tuple #[]) ∧ (∃ a c a' c', SO w' B b s' (.slice a s'.l.length c) (.slice a' s'.ms.length c')) ∧ Below B w w' ∧ ∀ j, j < w.heap.size → j ≠ b → u.ownBlock ≠ some j → v.ownBlock ≠ some j → w'.heap[j]? = w.heap[j]?
theorem placeM_le (l : List Me) (r : Int) : placeM l r ≤ l.length := (List.takeWhile_prefix (l := l) (fun m => decide (m.req < r))).length_le
theorem mown_ne {w : World} {B j : Nat} {u : Value} {l : List Me} (h : MOwn w B u l) (hj : w.heap.size ≤ j) : u.ownBlock ≠ some j := fun e => by
 have := (World.ownsRow.lt h _ e).2
 omega
theorem SO.memos {w : World} {B b : Nat} {s : Bk} {u v v' : Value} {l' : List Me} (hb : BC w b s u v) (he : EOwn w B u s.l) (hm : MOwn w B v' l') (hlo : B ≤ b) : SO (w.setCell ⟨b, 2, none⟩ v') B b { s with ms := l' } u v' := by
 refine ⟨?_, he.off hb (by decide) (by decide), hm.off hb (by decide), hlo⟩
 have := heap_setCell_same w b 2 _ _ v' hb
 unfold BC
 rw [this]
 rfl
theorem keepM_len (l : List Me) (m : Me) : (keepM l m).length = l.length + 1 := by
 have := placeM_le l m.req
 unfold keepM
 rw [List.length_append, List.length_append, List.length_take, List.length_drop, List.length_singleton]
 omega
theorem MOwn.insert {z2 : World} {B : Nat} {l : List Me} {m : Me} {a : Option Addr} {c : Nat}
  (ho : z2.ownsRow B 76 3 (.slice a (l.length + 1) c) (l.length + 1) ((mcells l).take (placeM l m.req * 3) ++ [.int .i64 m.req, .int .i64 m.res.err, .int .i64 m.res.ver] ++ (mcells l).drop (placeM l m.req * 3))) :
  MOwn z2 B (.slice a (l.length + 1) c) (keepM l m) := by
 unfold MOwn
 rw [keepM_len]
 unfold keepM
 rw [mcells_append, mcells_append, ← mcells_take, ← mcells_drop]
 exact ho
theorem bkeep_p (s : Bk) (u v : Value) (B b : Nat) (m : Me) (w : World) (h : SO w B b s u v) (hs : SortM s.ms) (hn : s.ms.length ≤ 1000000) (hBw : B ≤ w.heap.size) :
  Calls Tryz.prog 33 #[.pointer (some ⟨b, 0, none⟩), .agg #[.int .i64 m.req, .int .i64 m.res.err, .int .i64 m.res.ver]] w (StepAns B b { s with ms := keepM s.ms m } u v w) := by
 obtain ⟨ad, cap, rfl, _⟩ := h.es.at.shape
 obtain ⟨ad', cap', rfl, _⟩ := h.ms.at.shape
 have hbw := h.bc.lt
 have HNB := Lib.hid (show w.heap.size ≠ b by omega)
 have HPL := Lib.hid (fun W (hW : Below w.heap.size w W) => msearch_p (.slice ad' s.ms.length cap') s.ms m.req W (h.ms.at.below hW) hn hs)
 have HSO := Lib.hid h
 have HBw := Lib.hid hBw
 have HKL := Lib.hid (And.intro (placeM_le s.ms m.req) hn)
 have HIN := Lib.hid (fun z2 a c => MOwn.insert (z2 := z2) (B := B) (l := s.ms) (m := m) (a := a) (c := c))
 have HLN := Lib.hid (keepM_len s.ms m)
 have HB0 : Hid (Below w.heap.size w (w.alloc (.cells #[.int .i64 m.req, .int .i64 m.res.err, .int .i64 m.res.ver] 76))) := Lib.hid ((Below.refl _ w).alloc (Nat.le_refl _) _)
 have HM0 : Hid ((w.alloc (.cells #[.int .i64 m.req, .int .i64 m.res.err, .int .i64 m.res.ver] 76)).heap[w.heap.size]? = some (.cells #[.int .i64 m.req, .int .i64 m.res.err, .int .i64 m.res.ver] 76 (0, 0))) := Lib.hid (heap_alloc_new w (.cells #[.int .i64 m.req, .int .i64 m.res.err, .int .i64 m.res.ver] 76))
 have hsW : w.heap.size + 1 ≤ (w.alloc (.cells #[.int .i64 m.req, .int .i64 m.res.err, .int .i64 m.res.ver] 76)).heap.size := by simp
 generalize keepM s.ms m = KM at *
 generalize placeM s.ms m.req = k at *
 generalize foundM s.ms m.req = F at *
 clear h hs hn hBw
 go_enter Tryz.func33, Tryz.ntmps33
 go_wp2_with fail
 generalize w.alloc (.cells #[.int .i64 m.req, .int .i64 m.res.err, .int .i64 m.res.ver] 76) = W at *
 obtain ⟨_, _, q2, _, _, _, _, _⟩ := (HSO.out.below HB0.out).bc.cells
 obtain ⟨_, _, _, _, mc⟩ := block_facts HM0.out
 have p0 := mc 0 _ rfl
 clear mc
 go_region_held3 (fun W' => W'.cell? ⟨b, 2, none⟩ = some (.slice ad' s.ms.length cap') ∧ W'.cell? ⟨w.heap.size, 0, none⟩ = some (.int .i64 m.req)) (first | exact ⟨y0, y1⟩ | go_keep) (first | (go_at_call 69; refine (HPL.out _ (HB0.out.drew)).mono ?_; rintro _ w1 ⟨rfl, hb1⟩; have hbb := (Below.refl W.heap.size W).drew.trans hb1; have y0 := cell_kept hbb (Nat.le_refl _) q2; have y1 := cell_kept hbb (Nat.le_refl _) p0))
 have HB1 := Lib.hid (HB0.out.trans (hbb.mono HB0.out.size))
 have HM1 := Lib.hid ((hbb.block w.heap.size (by omega)).trans HM0.out)
 have HSO1 := Lib.hid (HSO.out.below HB1.out)
 have hsw1 : w.heap.size + 1 ≤ w1.heap.size := Nat.le_trans hsW hbb.size
 clear hbb hb1 y0 y1 q2 p0 HB0 HM0 hsW HPL
 obtain ⟨_, _, q2, _, _, _, _, _⟩ := HSO1.out.bc.cells
 obtain ⟨_, _, _, _, mc⟩ := block_facts HM1.out
 have p0 := mc 0 _ rfl
 have p1 := mc 1 _ rfl
 have p2 := mc 2 _ rfl
 clear mc
 go_wp2_with fail
 have HS : Hid (∀ W', Below w1.heap.size w1 W' → W'.cell? ⟨b, 2, none⟩ = some (.slice ad' s.ms.length cap') ∧ W'.cell? ⟨w.heap.size, 0, none⟩ = some (.int .i64 m.req) ∧ W'.cell? ⟨w.heap.size, 1, none⟩ = some (.int .i64 m.res.err) ∧ W'.cell? ⟨w.heap.size, 2, none⟩ = some (.int .i64 m.res.ver)) := Lib.hid (fun W' hW => ⟨cell_kept hW (Nat.le_refl _) q2, cell_kept hW (Nat.le_refl _) p0, cell_kept hW (Nat.le_refl _) p1, cell_kept hW (Nat.le_refl _) p2⟩)
 have hS0 := HS.out _ (Below.refl w1.heap.size w1).drew
 refine wp_region_last (S := fun W' => W'.cell? ⟨b, 2, none⟩ = some (.slice ad' s.ms.length cap') ∧ W'.cell? ⟨w.heap.size, 0, none⟩ = some (.int .i64 m.req) ∧ W'.cell? ⟨w.heap.size, 1, none⟩ = some (.int .i64 m.res.err) ∧ W'.cell? ⟨w.heap.size, 2, none⟩ = some (.int .i64 m.res.ver)) (by kernel_rfl) (ops := List.toArray [_, _, _, _, _, _, _, _, _, _, _]) (o := _) rfl (by kernel_rfl) ?_
 refine tk 0 (.pointer (some ⟨b, 0, none⟩)) rfl ?_ hS0 ?_
 ·intro w' ⟨s0, s1, s2, s3⟩; go_simp
 refine tk 1 (.pointer (some ⟨b, 0, none⟩)) rfl ?_ hS0 ?_
 ·intro w' ⟨s0, s1, s2, s3⟩; go_simp
 refine tk 2 (.pointer (some ⟨b, 0, none⟩)) rfl ?_ hS0 ?_
 ·intro w' ⟨s0, s1, s2, s3⟩; go_simp
 refine tk 3 (.pointer (some ⟨b, 2, none⟩)) rfl ?_ hS0 ?_
 ·intro w' ⟨s0, s1, s2, s3⟩; go_simp
 refine tk 4 (.slice ad' s.ms.length cap') rfl ?_ hS0 ?_
 ·intro w' ⟨s0, s1, s2, s3⟩; go_simp
 refine tk 5 (.int .i64 k) rfl ?_ hS0 ?_
 ·intro w' ⟨s0, s1, s2, s3⟩; go_simp
 refine tk 6 (.agg #[.int .i64 m.req, .int .i64 m.res.err, .int .i64 m.res.ver]) rfl ?_ hS0 ?_
 ·intro w' ⟨s0, s1, s2, s3⟩; go_simp
 simp only [List.getElem_toArray, List.getElem_cons_succ, List.getElem_cons_zero, Act.put, List.setIfInBounds_toArray, List.set_cons_zero, List.set_cons_succ]
 clear hS0 q2 p0 p1 p2
 refine wpAnyH_ready (rs := [7]) (by kernel_rfl) (by simp) ?_
 refine AllReadyH.cons rfl (fun K hK => ?_) AllReadyH.nil
 simp only [List.getElem_toArray, List.getElem_cons_succ, List.getElem_cons_zero]
 go_simp
 have HBZ : Hid (Below w1.heap.size w1 ((w1.alloc (.cells #[.int .i64 m.req, .int .i64 m.res.err, .int .i64 m.res.ver] 76)).drew)) := Lib.hid ((Below.refl _ _).alloc (Nat.le_refl _) _).drew
 have HZ : Hid (((w1.alloc (.cells #[.int .i64 m.req, .int .i64 m.res.err, .int .i64 m.res.ver] 76)).drew).heap[w1.heap.size]? = some (.cells #[.int .i64 m.req, .int .i64 m.res.err, .int .i64 m.res.ver] 76 (0, 0))) := Lib.hid (heap_alloc_new w1 (.cells #[.int .i64 m.req, .int .i64 m.res.err, .int .i64 m.res.ver] 76))
 have hzs : ((w1.alloc (.cells #[.int .i64 m.req, .int .i64 m.res.err, .int .i64 m.res.ver] 76)).drew).heap.size = w1.heap.size + 1 := by
  have : ((w1.alloc (.cells #[.int .i64 m.req, .int .i64 m.res.err, .int .i64 m.res.ver] 76)).drew).heap.size = (w1.alloc (.cells #[.int .i64 m.req, .int .i64 m.res.err, .int .i64 m.res.ver] 76)).heap.size := rfl
  rw [this]; simp
 have HZS := Lib.hid hzs
 refine hK.out _ _ (HS.out _ HBZ.out) (fun _ => ?_)
 clear hK hzs
 generalize (w1.alloc (.cells #[.int .i64 m.req, .int .i64 m.res.err, .int .i64 m.res.ver] 76)).drew = z at *
 refine wpAnyH_ready (rs := [8]) (by kernel_rfl) (by simp) ?_
 refine AllReadyH.cons rfl (fun K hK => ?_) AllReadyH.nil
 simp only [List.getElem_toArray, List.getElem_cons_succ, List.getElem_cons_zero]
 go_simp
 have HSOZ := Lib.hid (HSO1.out.below HBZ.out)
 have hBz : B ≤ z.heap.size := by have := HBw.out; have := HZS.out; omega
 refine (mem_insert_p B _ s.ms.length k w1.heap.size (mcells s.ms) [.int .i64 m.req, .int .i64 m.res.err, .int .i64 m.res.ver] 76 z HSOZ.out.ms HKL.out.1 HKL.out.2 HZ.out rfl (mcells_one _) (fun u hu => by simp at hu; rcases hu with rfl | rfl | rfl <;> rfl) (mown_ne HSO1.out.ms (Nat.le_refl _)) hBz).mono ?_
 rintro _ z2 ⟨a2, c2, rfl, ho2, hb2, hk2, hl2⟩
 have hmo := HIN.out z2 a2 c2 ho2
 have hob : (Value.slice ad' s.ms.length cap').ownBlock ≠ some b := row_off HSOZ.out.ms HSOZ.out.bc (by decide)
 have hbc2 : BC z2 b s (.slice ad s.l.length cap) (.slice ad' s.ms.length cap') := (hk2 b (HSOZ.out.bc.lt) hob).trans HSOZ.out.bc
 have hes2 : EOwn z2 B (.slice ad s.l.length cap) s.l := by
  obtain ⟨ps, hr, hf⟩ := HSOZ.out.es
  exact ⟨ps, row_kept hr (fun g hg => hk2 g (World.ownsRow.lt hr g hg).2 (fun e => rows_apart (T := 76) HSOZ.out.ms hr (by decide) e hg)), hf.map (fun _ _ hx => hx.kept (fun g hg => hk2 g (hx.lt hg).2 (fun e => rows_apart (T := 76) HSOZ.out.ms hx (by decide) e hg)))⟩
 have HSO3 := Lib.hid (SO.memos hbc2 hes2 hmo HSO.out.lo)
 have HK2 : Hid (∀ i, i < w.heap.size → i ≠ b → (Value.slice ad' s.ms.length cap').ownBlock ≠ some i → z2.heap[i]? = w.heap[i]?) := Lib.hid (fun i h1 _ h3 => (hk2 i (by have := HZS.out; omega) h3).trans ((HBZ.out.block i (by omega)).trans (HB1.out.block i h1)))
 have HBB2 := Lib.hid ((HB1.out.mono HBw.out).trans ((HBZ.out.mono (by have := HBw.out; omega)).trans hb2))
 obtain ⟨_, _, q2, _, _, _, _, _⟩ := hbc2.cells
 have qf := hbc2.free 2
 have hlt2 := hbc2.lt
 have h2e : z2.heap[w.heap.size]? = w1.heap[w.heap.size]? := (hk2 _ (by have := HZS.out; omega) (mown_ne HSO.out.ms (Nat.le_refl _))).trans (HBZ.out.block _ (by omega))
 obtain ⟨_, _, _, _, mc⟩ := block_facts (h2e.trans HM1.out)
 have hS2 : z2.cell? ⟨b, 2, none⟩ = some (.slice ad' s.ms.length cap') ∧ z2.cell? ⟨w.heap.size, 0, none⟩ = some (.int .i64 m.req) ∧ z2.cell? ⟨w.heap.size, 1, none⟩ = some (.int .i64 m.res.err) ∧ z2.cell? ⟨w.heap.size, 2, none⟩ = some (.int .i64 m.res.ver) := ⟨q2, mc 0 _ rfl, mc 1 _ rfl, mc 2 _ rfl⟩
 clear ho2 hb2 hk2 hl2 hmo hob hbc2 hes2 h2e mc
 refine hK.out _ _ hS2 (fun _ => ?_)
 clear hK
 refine tk 9 (.pointer (some ⟨b, 0, none⟩)) rfl ?_ hS2 ?_
 ·intro w' ⟨s0, s1, s2, s3⟩; go_simp
 simp only [List.getElem_toArray, List.getElem_cons_succ, List.getElem_cons_zero, Act.put, List.setIfInBounds_toArray, List.set_cons_zero, List.set_cons_succ]
 refine tk 10 (.pointer (some ⟨b, 2, none⟩)) rfl ?_ hS2 ?_
 ·intro w' ⟨s0, s1, s2, s3⟩; go_simp
 simp only [List.getElem_toArray, List.getElem_cons_succ, List.getElem_cons_zero, Act.put, List.setIfInBounds_toArray, List.set_cons_zero, List.set_cons_succ]
 clear hS2
 refine wpAnyH_done (by kernel_rfl) ?_ _
 rw [Exit.then]
 rw [if_pos (by rfl)]
 go_simp
 have HANS : Hid (StepAns B b { s with ms := KM } (.slice ad s.l.length cap) (.slice ad' s.ms.length cap') w (.returned (.tuple #[])) (z2.setCell ⟨b, 2, none⟩ (.slice a2 (s.ms.length + 1) c2))) := Lib.hid ⟨rfl, ⟨ad, cap, a2, c2, by rw [HLN.out]; exact HSO3.out⟩, HBB2.out.setCell (p := ⟨b, 2, none⟩) HSO.out.lo _, fun i h1 h2 _ h4 => by
  rw [Below.heap_setCell _ _ _ _ h2]
  exact HK2.out i h1 h2 h4⟩
 go_wp2_with fail
 exact bodyPost_end (v := .tuple #[]) (by simp [results, Tryz.results33, go_sem]) rfl HANS.out
theorem forget_other (b : Nat) (h low : Int) (w : World) (h0 : -9223372036854775808 ≤ low) (h1 : low ≤ 9223372036854775807) (hne : homeP low ≠ h) :
  Calls Tryz.prog 34 #[.pointer (some ⟨b, 0, none⟩), .int .i64 h, .int .i64 low] w fun e w' => e = .returned (.tuple #[]) ∧ Below w.heap.size w w' := by
 have HH := Lib.hid (fun W => home_p low h0 h1 W)
 have hb : (homeP low != h) = true := by rw [bne_iff_ne]; exact hne
 generalize homeP low = H at *
 clear hne
 go_enter Tryz.func34, Tryz.ntmps34
 go_wp2_with fail
 have HB := Lib.hid (((Below.refl _ w).alloc (Nat.le_refl _) (.cells #[.int .i64 h] 3)).alloc (by simp) (.cells #[.int .i64 low] 2))
 go_quiet ((go_at_call 26; exact Calls.quiet_of_same ((HH.out _).mono fun _ _ ⟨a, b⟩ => ⟨a, b.symm⟩)))
 go_wp2_with fail
 exact bodyPost_ret (v := .tuple #[]) (by simp [results, Tryz.results34, go_sem]) rfl ⟨rfl, HB.out.os, HB.out.tape, HB.out.output, HB.out.size, HB.out.block⟩
end Go.Proofs.YtlpgphiccjkenaaGreatDoor
