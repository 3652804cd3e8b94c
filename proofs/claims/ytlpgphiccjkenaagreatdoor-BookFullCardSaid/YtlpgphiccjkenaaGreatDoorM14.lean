/-
 Contracts of the program, and what they rest on.
-/
import Derived.Test.YtlpgphiccjkenaaGreatDoorM12
import Derived.Test.YtlpgphiccjkenaaGreatDoorM09
import Derived.Deep.AppendLies
set_option maxRecDepth 100000
set_option maxHeartbeats 16000000
namespace Go.Proofs.YtlpgphiccjkenaaGreatDoor
open Go.RowKit
def rtup (r : Rs) (b : Bool) : Value := .tuple #[.agg #[.int .i64 r.err, .int .i64 r.ver], .bool b]
def toldR (ms : List Me) (r : Int) : Rs × Bool := match toldB ms r with | some x => (x, true) | none => (⟨0, 0⟩, false)
theorem told_hit {l : List Me} {n : Int} {k : Nat} {x : Me} (hx : l[k]? = some x) (hn : x.req = n) (hb : ∀ j y, j < k → l[j]? = some y → y.req ≠ n) : toldR l n = (x.res, true) := by
 have hk : k < l.length := (List.getElem?_eq_some_iff.1 hx).1
 have : l.find? (fun m => m.req == n) = some x := by
  rw [List.find?_eq_some_iff_getElem]
  refine ⟨by simpa using hn, k, hk, (List.getElem?_eq_some_iff.1 hx).2, fun j hj => ?_⟩
  have := hb j l[j] hj (List.getElem?_eq_getElem (by omega))
  simpa using this
 unfold toldR toldB
 rw [this]
 rfl
theorem told_miss {l : List Me} {n : Int} (hb : ∀ j y, j < l.length → l[j]? = some y → y.req ≠ n) : toldR l n = (⟨0, 0⟩, false) := by
 have : l.find? (fun m => m.req == n) = none := by
  rw [List.find?_eq_none]
  intro x hx
  obtain ⟨j, hj, rfl⟩ := List.getElem_of_mem hx
  have := hb j l[j] hj (List.getElem?_eq_getElem hj)
  simpa using this
 unfold toldR toldB
 rw [this]
 rfl
def RC (w : World) (b : Nat) (r : Rs) : Prop := w.heap[b]? = some (.cells #[.int .i64 r.err, .int .i64 r.ver] 30 (0, 0))
theorem RC.lt {w : World} {b : Nat} {r : Rs} (h : RC w b r) : b < w.heap.size := (Array.getElem?_eq_some_iff.1 h).1
theorem RC.below {w w' : World} {b : Nat} {r : Rs} (h : RC w b r) (hb : Below w.heap.size w w') : RC w' b r := (hb.block b h.lt).trans h
theorem RC.facts {w : World} {b : Nat} {r : Rs} (h : RC w b r) : w.cell? ⟨b, 0, none⟩ = some (.int .i64 r.err) ∧ w.cell? ⟨b, 1, none⟩ = some (.int .i64 r.ver) ∧ w.frozen? ⟨b, 0, none⟩ = false ∧ w.frozen? ⟨b, 1, none⟩ = false := by
 obtain ⟨_, f, _, _, c⟩ := block_facts h
 exact ⟨c 0 _ rfl, c 1 _ rfl, f 0, f 1⟩
theorem RC.set {w : World} {b : Nat} {r : Rs} (h : RC w b r) (r' : Rs) : RC ((w.setCell ⟨b, 0, none⟩ (.int .i64 r'.err)).setCell ⟨b, 1, none⟩ (.int .i64 r'.ver)) b r' := by
 have h0 := heap_setCell_same w b 0 _ _ (.int .i64 r'.err) h
 have h1 := heap_setCell_same _ b 1 _ _ (.int .i64 r'.ver) h0
 unfold RC
 rw [h1]
 simp
theorem RC.new (w : World) (r : Rs) : RC (w.alloc (.cells #[.int .i64 r.err, .int .i64 r.ver] 30)) w.heap.size r := heap_alloc_new w _
theorem told_p (s : Bk) (n : Int) (u v : Value) (w : World) (h : BAt w s u v) :
  Calls Tryz.prog 16 #[bagg s u v, .int .i64 n] w fun e w' => e = .returned (rtup (toldR s.ms n).1 (toldR s.ms n).2) ∧ Below w.heap.size w w' := by
 obtain ⟨R, hR⟩ : ∃ R, toldR s.ms n = R := ⟨_, rfl⟩
 rw [hR]
 obtain ⟨ad, cap, rfl, _⟩ := h.es.shape
 obtain ⟨ad', cap', rfl, _⟩ := h.ms.shape
 have HC := Lib.hid ((BC.new w s (.slice ad s.l.length cap) (.slice ad' s.ms.length cap')).below ((Below.refl _ _).alloc (Nat.le_refl _) (.cells #[.int .i64 0, .int .i64 0] 30)))
 have HB : Hid (Below w.heap.size w ((w.alloc (.cells (bcells s (.slice ad s.l.length cap) (.slice ad' s.ms.length cap')) 27)).alloc (.cells #[.int .i64 0, .int .i64 0] 30))) := Lib.hid (((Below.refl _ w).alloc (Nat.le_refl _) _).alloc (by simp) _)
 have HZ : Hid (RC ((w.alloc (.cells (bcells s (.slice ad s.l.length cap) (.slice ad' s.ms.length cap')) 27)).alloc (.cells #[.int .i64 0, .int .i64 0] 30)) (w.heap.size + 1) ⟨0, 0⟩) := Lib.hid (by
  have := RC.new (w.alloc (.cells (bcells s (.slice ad s.l.length cap) (.slice ad' s.ms.length cap')) 27)) ⟨0, 0⟩
  simpa using this)
 have HA := Lib.hid (h.below HB.out).ms
 have hn := h.shortM
 clear h
 have HR := Lib.hid hR
 clear hR
 unfold bagg rtup
 have q2 := HC.out.cells.2.2.1
 unfold bcells at HB HA HC HZ q2
 go_enter Tryz.func16, Tryz.ntmps16
 go_wp2_with fail
 generalize (w.alloc (.cells #[.int .i64 s.seq, .slice ad s.l.length cap, .slice ad' s.ms.length cap', .int .i64 s.l1, .int .i64 s.l2, .int .i64 s.l3, .int .i64 s.l4, .int .i64 s.l5] 27)).alloc (.cells #[.int .i64 0, .int .i64 0] 30) = W at *
 clear q2
 go_loopg [7, 11] s.ms.length (fun gg _ s11 wr => ∃ k : Nat, k ≤ s.ms.length ∧ s.ms.length - k ≤ gg ∧ s11 = .int .i64 k ∧ Hid (Below W.heap.size W wr) ∧ Hid (∀ j y, j < k → s.ms[j]? = some y → y.req ≠ n))
 case atStart => exact ⟨0, Nat.zero_le _, by omega, rfl, Lib.hid (Below.refl _ _), Lib.hid (fun j y hj => absurd hj (Nat.not_lt_zero _))⟩
 case round =>
  obtain ⟨k, hk, hg, rfl, HBW, HN⟩ := hrel
  have HZr := Lib.hid (HZ.out.below HBW.out)
  by_cases hlt : k < s.ms.length
  ·have hltz : (k : Int) < (s.ms.length : Int) := by omega
   obtain ⟨x, hx⟩ : ∃ x, s.ms[k]? = some x := ⟨_, List.getElem?_eq_getElem hlt⟩
   obtain ⟨g, o, rfl, d0, d1, d2, hgl⟩ := (HA.out.below HBW.out).get hx
   have HWA : Hid (Below W.heap.size W (wr.alloc (.cells #[.int .i64 x.req, .int .i64 x.res.err, .int .i64 x.res.ver] 76))) := Lib.hid (HBW.out.alloc HBW.out.size _)
   have HZa := Lib.hid (HZr.out.below ((Below.refl _ wr).alloc (Nat.le_refl _) (.cells #[.int .i64 x.req, .int .i64 x.res.err, .int .i64 x.res.ver] 76)))
   have hlr := HZr.out.lt
   have hne : ¬ w.heap.size + 1 = wr.heap.size := by omega
   have hne' : ¬ wr.heap.size = w.heap.size + 1 := by omega
   by_cases hq : x.req = n
   ·obtain rfl : R = (x.res, true) := by rw [← HR.out, told_hit hx hq HN.out]
    clear hx hgl
    obtain ⟨z0, z1, y0, y1⟩ := HZr.out.facts
    subst hq
    have HF := Lib.hid ((HZr.out.set x.res).below ((Below.refl _ _).alloc (Nat.le_refl _) (.cells #[.int .i64 x.req, .int .i64 x.res.err, .int .i64 x.res.ver] 76)))
    have HB3 : Hid (Below w.heap.size w (((wr.setCell ⟨w.heap.size + 1, 0, none⟩ (.int .i64 x.res.err)).setCell ⟨w.heap.size + 1, 1, none⟩ (.int .i64 x.res.ver)).alloc (.cells #[.int .i64 x.req, .int .i64 x.res.err, .int .i64 x.res.ver] 76))) := Lib.hid ((((HB.out.trans (HBW.out.mono HB.out.size)).setCell (p := ⟨w.heap.size + 1, 0, none⟩) (by simp) _).setCell (p := ⟨w.heap.size + 1, 1, none⟩) (by simp) _).alloc (by have := HB.out.size; simp; omega) _)
    go_wp2_with fail
    obtain ⟨t0, t1, _⟩ := HF.out.facts
    exact bodyPost_ret (v := .tuple #[.agg #[.int .i64 x.res.err, .int .i64 x.res.ver], .bool true]) (by simp [results, Tryz.results16, go_sem, t0, t1]) rfl ⟨rfl, HB3.out⟩
   ·have HX : Hid (∀ j y, j < k + 1 → s.ms[j]? = some y → y.req ≠ n) := Lib.hid (fun j y hj hy => by
     by_cases e : j = k
     ·subst e
      rw [hx] at hy
      cases hy
      exact hq
     ·exact HN.out j y (by omega) hy)
    have hqb : (x.req == n) = false := by simpa using hq
    clear hx hgl
    go_wp2_with fail
    go_roundg (s.ms.length - (k + 1))
    case measure => omega
    case rel => exact ⟨k + 1, by omega, by omega, by go_num, HWA, HX⟩
  ·have hltz : ¬ (k : Int) < (s.ms.length : Int) := by omega
   obtain rfl : R = (⟨0, 0⟩, false) := by rw [← HR.out, told_miss (fun j y hj => HN.out j y (by omega))]
   obtain ⟨z0, z1, y0, y1⟩ := HZr.out.facts
   have HF := Lib.hid (HZr.out.set ⟨0, 0⟩)
   have HB3 : Hid (Below w.heap.size w ((wr.setCell ⟨w.heap.size + 1, 0, none⟩ (.int .i64 0)).setCell ⟨w.heap.size + 1, 1, none⟩ (.int .i64 0))) := Lib.hid (((HB.out.trans (HBW.out.mono HB.out.size)).setCell (p := ⟨w.heap.size + 1, 0, none⟩) (by simp) _).setCell (p := ⟨w.heap.size + 1, 1, none⟩) (by simp) _)
   dsimp only at z0 z1
   go_wp2_with fail
   obtain ⟨t0, t1, _⟩ := HF.out.facts
   exact bodyPost_ret (v := .tuple #[.agg #[.int .i64 0, .int .i64 0], .bool false]) (by simp [results, Tryz.results16, go_sem, t0, t1]) rfl ⟨rfl, HB3.out⟩
theorem failed_p (n : Int) (w : World) :
  Calls Tryz.prog 31 #[.int .i64 n] w fun e w' => e = .returned (.agg #[.int .i64 n, .int .i64 0]) ∧ Below w.heap.size w w' := by
 go_enter Tryz.func31, Tryz.ntmps31
 go_wp2_with fail
 exact bodyPost_ret (v := .agg #[.int .i64 n, .int .i64 0]) (by simp [results, Tryz.results31, go_sem]) (by first | exact rfl | exact trivial) ⟨by first | exact rfl | exact trivial, (Below.refl _ _).alloc (Nat.le_refl _) _⟩
theorem bnum_p (n : Int) (w : World) :
  Calls Tryz.prog 104 #[.int .i64 n] w fun e w' => e = .returned (.agg #[.int .i64 1, .int .i64 n, .string ⟨#[]⟩, .slice none 0 0]) ∧ Below w.heap.size w w' := by
 go_enter Tryz.func104, Tryz.ntmps104
 go_wp2_with fail
 exact bodyPost_ret (v := .agg #[.int .i64 1, .int .i64 n, .string ⟨#[]⟩, .slice none 0 0]) (by simp [results, Tryz.results104, go_sem]) (by first | exact rfl | exact trivial) ⟨by first | exact rfl | exact trivial, (Below.refl _ _).alloc (Nat.le_refl _) _⟩
theorem bstr_p (s : ByteArray) (w : World) :
  Calls Tryz.prog 145 #[.string s] w fun e w' => e = .returned (.agg #[.int .i64 2, .int .i64 0, .string s, .slice none 0 0]) ∧ Below w.heap.size w w' := by
 go_enter Tryz.func145, Tryz.ntmps145
 go_wp2_with fail
 exact bodyPost_ret (v := .agg #[.int .i64 2, .int .i64 0, .string s, .slice none 0 0]) (by simp [results, Tryz.results145, go_sem]) (by first | exact rfl | exact trivial) ⟨by first | exact rfl | exact trivial, (Below.refl _ _).alloc (Nat.le_refl _) _⟩
theorem blist_p (ad : Option Addr) (n c : Nat) (w : World) :
  Calls Tryz.prog 103 #[.slice ad n c] w fun e w' => e = .returned (.agg #[.int .i64 3, .int .i64 0, .string ⟨#[]⟩, .slice ad n c]) ∧ Below w.heap.size w w' := by
 go_enter Tryz.func103, Tryz.ntmps103
 go_wp2_with fail
 exact bodyPost_ret (v := .agg #[.int .i64 3, .int .i64 0, .string ⟨#[]⟩, .slice ad n c]) (by simp [results, Tryz.results103, go_sem]) (by first | exact rfl | exact trivial) ⟨by first | exact rfl | exact trivial, (Below.refl _ _).alloc (Nat.le_refl _) _⟩
structure V4 where
 k : Int
 n : Int
 s : ByteArray
 l : F
def F.ofL : List V4 → F
 | [] => .nil
 | x :: r => .cons x.k x.n x.s x.l (F.ofL r)
theorem F.ofL_len : ∀ l : List V4, (F.ofL l).len = l.length
 | [] => rfl
 | _ :: r => by simp only [F.ofL, F.len, F.ofL_len r, List.length_cons]
theorem F.ofL_snoc : ∀ (l : List V4) (x : V4), F.ofL (l ++ [x]) = (F.ofL l).app (.cons x.k x.n x.s x.l .nil)
 | [], _ => rfl
 | y :: r, x => by simp only [F.ofL, F.app, List.cons_append, F.ofL_snoc r x]
def b4num (n : Int) : V4 := ⟨1, n, ⟨#[]⟩, .nil⟩
def b4str (s : ByteArray) : V4 := ⟨2, 0, s, .nil⟩
def b4list (l : List V4) : V4 := ⟨3, 0, ⟨#[]⟩, F.ofL l⟩
def b4ver (v : Ve) : V4 := b4list [b4num v.ver, b4num (if v.gone then 1 else 0), b4str v.body]
def b4mem (m : Me) : V4 := b4list [b4num m.req, b4num m.res.err, b4num m.res.ver]
def b4ent (e : En) : V4 := b4list [b4str e.key, b4list (e.vs.map b4ver)]
def lowL (s : Bk) : List Int := [s.l1, s.l2, s.l3, s.l4, s.l5]
def b4book (s : Bk) : V4 := b4list [b4num s.seq, b4list (s.l.map b4ent), b4list (s.ms.map b4mem), b4list ((lowL s).map b4num)]
def VAns (x : V4) (w : World) (e : Ending) (w' : World) : Prop := Below w.heap.size w w' ∧ ∃ ad cap, e = .returned (.agg #[.int .i64 x.k, .int .i64 x.n, .string x.s, .slice ad x.l.len cap]) ∧ RepG w' (fun b => w.heap.size ≤ b) ad x.l
theorem VC.kept {w w' : World} {b : Nat} {k n : Int} {s : ByteArray} {ad : Option Addr} {len cap : Nat} (h : VC w b k n s ad len cap) (e : w'.heap[b]? = w.heap[b]?) : VC w' b k n s ad len cap := by
 obtain ⟨⟨h0, h1, h2, h3⟩, f0, f1, f2, f3⟩ := h
 have f (o : Nat) : w'.frozen? ⟨b, o, none⟩ = w.frozen? ⟨b, o, none⟩ := World.frozen?_of_block (a := ⟨b, o, none⟩) e
 exact ⟨⟨by rw [cell_congr e]; exact h0, by rw [cell_congr e]; exact h1, by rw [cell_congr e]; exact h2, by rw [cell_congr e]; exact h3⟩, by rw [f]; exact f0, by rw [f]; exact f1, by rw [f]; exact f2, by rw [f]; exact f3⟩
theorem VC.lt {w : World} {b : Nat} {k n : Int} {s : ByteArray} {ad : Option Addr} {len cap : Nat} (h : VC w b k n s ad len cap) : b < w.heap.size := World.block_lt_of_cell? w _ h.1.1
theorem VC.put {w : World} {b : Nat} {k0 n0 : Int} {s0 : ByteArray} {a0 : Option Addr} {l0 c0 : Nat} (h : VC w b k0 n0 s0 a0 l0 c0) (k n : Int) (s : ByteArray) (ad : Option Addr) (len cap : Nat) :
  VC ((((w.setCell ⟨b, 0, none⟩ (.int .i64 k)).setCell ⟨b, 1, none⟩ (.int .i64 n)).setCell ⟨b, 2, none⟩ (.string s)).setCell ⟨b, 3, none⟩ (.slice ad len cap)) b k n s ad len cap := by
 obtain ⟨⟨v0, v1, v2, v3⟩, f0, f1, f2, f3⟩ := h
 refine ⟨⟨?_, ?_, ?_, ?_⟩, ?_, ?_, ?_, ?_⟩ <;> go_simp
theorem vput_heap (w : World) (b : Nat) (k n : Int) (s : ByteArray) (ad : Option Addr) (len cap : Nat) {j : Nat} (h : j ≠ b) :
  ((((w.setCell ⟨b, 0, none⟩ (.int .i64 k)).setCell ⟨b, 1, none⟩ (.int .i64 n)).setCell ⟨b, 2, none⟩ (.string s)).setCell ⟨b, 3, none⟩ (.slice ad len cap)).heap[j]? = w.heap[j]? := by
 rw [Below.heap_setCell _ _ _ _ h, Below.heap_setCell _ _ _ _ h, Below.heap_setCell _ _ _ _ h, Below.heap_setCell _ _ _ _ h]
theorem vput_below {B b : Nat} {w0 w : World} (k n : Int) (s : ByteArray) (ad : Option Addr) (len cap : Nat) (hB : B ≤ b) (h : Below B w0 w) :
  Below B w0 ((((w.setCell ⟨b, 0, none⟩ (.int .i64 k)).setCell ⟨b, 1, none⟩ (.int .i64 n)).setCell ⟨b, 2, none⟩ (.string s)).setCell ⟨b, 3, none⟩ (.slice ad len cap)) :=
 (((h.setCell (p := ⟨b, 0, none⟩) hB _).setCell (p := ⟨b, 1, none⟩) hB _).setCell (p := ⟨b, 2, none⟩) hB _).setCell (p := ⟨b, 3, none⟩) hB _
theorem VAns.store {w w4 : World} {k n : Int} {s : ByteArray} {ad : Option Addr} {cap N : Nat} {l : F} {A : Nat → Prop} (hb : Below w.heap.size w w4) (hg : RepG w4 A ad l) (b : Nat) (hA : ∀ j, A j → w.heap.size ≤ j ∧ j ≠ b) (hB : w.heap.size ≤ b) (hN : l.len = N) :
  VAns ⟨k, n, s, l⟩ w (.returned (.agg #[.int .i64 k, .int .i64 n, .string s, .slice ad N cap])) ((((w4.setCell ⟨b, 0, none⟩ (.int .i64 k)).setCell ⟨b, 1, none⟩ (.int .i64 n)).setCell ⟨b, 2, none⟩ (.string s)).setCell ⟨b, 3, none⟩ (.slice ad N cap)) := by
 subst hN
 exact ⟨vput_below k n s ad l.len cap hB hb, ad, cap, rfl, hg.to (fun j hj _ => ⟨(hA j hj).1, vput_heap w4 b k n s ad l.len cap (hA j hj).2⟩)⟩
theorem new_rep {w : World} {A A' : Nat → Prop} {xs : List Value} {L : F} (t : TypeId) (hX : RepX w A xs L) (hA : ∀ b, A b → b < w.heap.size → A' b) (hN : A' w.heap.size) : RepG (w.alloc (.cells xs.toArray t)) A' (some ⟨w.heap.size, 0, none⟩) L := by
 have hn : (w.alloc (.cells xs.toArray t)).heap[w.heap.size]? = some (.cells xs.toArray t (0, 0)) := heap_alloc_new w _
 refine .inr ⟨w.heap.size, 0, rfl, RepX.repA (A := A') (fun _ h => h) ⟨hN, _, _, hn⟩ L xs 0 (RepX.to (fun b hb hl => ⟨hA b hb hl, heap_alloc_old _ _ hl⟩) L xs hX) (fun j u hj => ?_)⟩
 unfold World.cell?
 simp only [hn, Nat.zero_add]
 simpa using hj
structure EachR (w : World) (G : List V4) (k : Nat) (la : Option Addr) (lc : Nat) (xs : List Value) (wr : World) : Prop where
 own : wr.ownsRow (w.heap.size + 1) 88 4 (.slice la k lc) k xs
 rep : RepX wr (fun b => w.heap.size + 1 ≤ b ∧ (Value.slice la k lc).ownBlock ≠ some b) xs (F.ofL (G.take k))
 bl : Below w.heap.size w wr
 ge : w.heap.size + 1 ≤ wr.heap.size
 vc : VC wr w.heap.size 0 0 ⟨#[]⟩ none 0 0
theorem EachR.start (w : World) (G : List V4) (t : TypeId) :
  EachR w G 0 (some ⟨w.heap.size + 1, 0, none⟩) 0 [] ((w.alloc (.cells #[.int .i64 0, .int .i64 0, .string ⟨#[]⟩, .slice none 0 0] t)).alloc (.cells #[] 88)) := by
 refine ⟨⟨rfl, .inr ⟨w.heap.size + 1, 0, #[], rfl, Nat.le_refl _, ?_, Nat.le_refl 0, by unfold maxLen; omega, rfl, rfl⟩⟩, rfl, ((Below.refl _ _).alloc (Nat.le_refl _) _).alloc (by simp) _, by simp, ?_⟩
 ·have h := heap_alloc_new (w.alloc (.cells #[.int .i64 0, .int .i64 0, .string ⟨#[]⟩, .slice none 0 0] t)) (.cells #[] 88)
  simpa using h
 ·refine ⟨⟨?_, ?_, ?_, ?_⟩, ?_, ?_, ?_, ?_⟩ <;> go_simp
theorem EachR.step {w wr w2 w3 : World} {G : List V4} {k : Nat} {la ad : Option Addr} {lc cap N : Nat} {xs : List Value} {x : V4} {v' : Value} {t : TypeId} (h : EachR w G k la lc xs wr) (hx : G[k]? = some x) (hb : Below wr.heap.size wr w2) (hg : RepG w2 (fun b => wr.heap.size ≤ b) ad x.l) (hN : x.l.len = N)
  (hown : w3.ownsRow (w.heap.size + 1) 88 4 v' (k + 1) (xs ++ [.int .i64 x.k, .int .i64 x.n, .string x.s, .slice ad N cap])) (hgrow : (w2.alloc (.cells #[.int .i64 x.k, .int .i64 x.n, .string x.s, .slice ad N cap] t)).grownBy w3 (Value.slice la k lc).ownBlock)
  (hloc : v'.ownBlock = (Value.slice la k lc).ownBlock ∨ v'.ownBlock = some (w2.heap.size + 1)) :
  ∃ la' lc', v' = .slice la' (k + 1) lc' ∧ EachR w G (k + 1) la' lc' (xs ++ [.int .i64 x.k, .int .i64 x.n, .string x.s, .slice ad N cap]) w3 := by
 subst hN
 obtain ⟨la', lc', rfl⟩ := owns_shape4 hown
 have hnb := owns_base h.own
 have hold := owns_old h.own
 have hs2 := hb.size
 have hblk : ∀ j, j < w2.heap.size → (Value.slice la k lc).ownBlock ≠ some j → w3.heap[j]? = w2.heap[j]? := fun j hj hn => by
  rw [hgrow.block j (by simp; omega) (fun e => hn (by first | exact e | exact e.symm))]
  exact heap_alloc_old _ _ hj
 have hne : ∀ j, j < w2.heap.size → (Value.slice la k lc).ownBlock ≠ some j → (Value.slice la' (k + 1) lc').ownBlock ≠ some j := fun j hj hn => by
  rcases hloc with e | e
  ·rw [e]; exact hn
  ·rw [e]
   intro e2
   have := Option.some.inj e2
   omega
 have hge := h.ge
 refine ⟨la', lc', rfl, hown, ?_, ?_, ?_, ?_⟩
 ·have hk : G.take (k + 1) = G.take k ++ [x] := by rw [List.take_add_one, hx]; rfl
  rw [hk, F.ofL_snoc]
  refine RepX.snoc (hg.to fun j hj hlt => ?_) _ xs (RepX.to (fun j hj hlt => ?_) _ xs h.rep)
  ·have hj' : wr.heap.size ≤ j := hj
   have hn : (Value.slice la k lc).ownBlock ≠ some j := fun e => by have := hold j e; omega
   exact ⟨⟨by omega, hne j hlt hn⟩, hblk j hlt hn⟩
  ·exact ⟨⟨hj.1, hne j (by omega) hj.2⟩, by rw [hblk j (by omega) hj.2]; exact hb.block j hlt⟩
 ·exact ((h.bl.trans (hb.mono h.bl.size)).alloc (Nat.le_trans h.bl.size hs2) _).grown hgrow (by simp; omega) (fun j hj => by have := hnb j hj; omega)
 ·have := hgrow.size
  simp at this
  omega
 ·refine h.vc.kept ?_
  rw [hblk w.heap.size (by omega) (fun e => by have := hnb _ e; omega)]
  exact hb.block _ (by omega)
theorem EachR.fin {w wr w4 : World} {G : List V4} {N : Nat} {la : Option Addr} {lc : Nat} {xs : List Value} (h : EachR w G N la lc xs wr) (hN : G.length = N) (hb : Below wr.heap.size wr w4) :
  VC w4 w.heap.size 0 0 ⟨#[]⟩ none 0 0 ∧ VAns (b4list G) w (.returned (.agg #[.int .i64 3, .int .i64 0, .string ⟨#[]⟩, .slice la N lc])) ((((w4.setCell ⟨w.heap.size, 0, none⟩ (.int .i64 3)).setCell ⟨w.heap.size, 1, none⟩ (.int .i64 0)).setCell ⟨w.heap.size, 2, none⟩ (.string ⟨#[]⟩)).setCell ⟨w.heap.size, 3, none⟩ (.slice la N lc)) := by
 have hge := h.ge
 have hL : F.ofL (G.take N) = F.ofL G := by rw [← hN, List.take_length]
 have hl : (F.ofL G).len = N := by rw [F.ofL_len, hN]
 have hrep := h.rep
 rw [hL] at hrep
 have hown := h.own
 have hg : RepG wr (fun b => w.heap.size + 1 ≤ b) la (F.ofL G) := by
  subst hl
  exact owns_repG (A' := fun b => w.heap.size + 1 ≤ b) hown hrep (fun _ h => h.1) (fun _ h => h)
 have hg4 : RepG w4 (fun b => w.heap.size + 1 ≤ b) la (F.ofL G) := hg.to (fun j hj hlt => ⟨hj, hb.block j hlt⟩)
 refine ⟨h.vc.kept (hb.block _ (by omega)), ?_⟩
 exact VAns.store (k := 3) (n := 0) (s := ⟨#[]⟩) (l := F.ofL G) (h.bl.trans (hb.mono h.bl.size)) hg4 w.heap.size (fun j hj => ⟨by omega, by omega⟩) (Nat.le_refl _) hl
def IsAt (w : World) (v : Value) (l : List Int) : Prop := ∃ g o cap, v = .slice (some ⟨g, o, none⟩) l.length cap ∧ g < w.heap.size ∧ ∀ j x, l[j]? = some x → w.cell? ⟨g, o + j, none⟩ = some (.int .i64 x)
theorem IsAt.below {w w' : World} {v : Value} {l : List Int} (h : IsAt w v l) (hb : Below w.heap.size w w') : IsAt w' v l := by
 obtain ⟨g, o, cap, rfl, hg, hc⟩ := h
 exact ⟨g, o, cap, rfl, Nat.lt_of_lt_of_le hg hb.size, fun j x hx => by rw [hb.cell (p := ⟨g, o + j, none⟩) hg]; exact hc j x hx⟩
theorem IsAt.shape {w : World} {v : Value} {l : List Int} (h : IsAt w v l) : ∃ ad cap, v = .slice ad l.length cap ∧ True := by
 obtain ⟨g, o, cap, rfl, _⟩ := h
 exact ⟨_, _, rfl, trivial⟩
theorem IsAt.get {w : World} {ad : Option Addr} {n c : Nat} {l : List Int} (h : IsAt w (.slice ad n c) l) {j : Nat} {x : Int} (hx : l[j]? = some x) :
  ∃ g o, ad = some ⟨g, o, none⟩ ∧ w.cell? ⟨g, o + j, none⟩ = some (.int .i64 x) ∧ g < w.heap.size := by
 obtain ⟨g, o, cap, e, hg, hc⟩ := h
 simp only [Value.slice.injEq] at e
 exact ⟨g, o, e.1, hc j x hx, hg⟩
theorem veach_p (v : Value) (l : List Ve) (w : World) (h : VsAt w v l) (hn : l.length ≤ 1000000) (hf : ∀ (x : Ve) W, Calls Tryz.prog 147 #[.agg #[.int .i64 x.ver, .bool x.gone, .string x.body]] W (VAns (b4ver x) W)) :
  Calls Tryz.prog 146 #[v, .func (.func 147) #[] #[]] w (VAns (b4list (l.map b4ver)) w) := by
 have eg : ∀ args w, (callFunc 147 args).run Tryz.prog w = .ok (.enter 147 args) w := enters_of Tryz.func147 (by kernel_rfl) rfl
 obtain ⟨i0, hi, hz0, hz1, hz2⟩ := info_parts infoVal
 obtain ⟨ad, cap, rfl, _⟩ := h.shape
 have HA := Lib.hid h
 have HF := Lib.hid hf
 have HST := Lib.hid (EachR.start w (l.map b4ver) 88)
 clear h hf
 go_enter Tryz.func146, Tryz.ntmps146
 go_wp2_with fail
 go_loopw [5, 11] (fun vv iv wr => ∃ (k : Nat) (la : Option Addr) (lc : Nat) (xs : List Value), iv = .int .i64 k ∧ k ≤ l.length ∧ vv = .slice la k lc ∧ Hid (EachR w (l.map b4ver) k la lc xs wr)) (fun _ iv _ => l.length - (intOf iv).toNat)
 case atStart => exact ⟨0, _, 0, [], rfl, Nat.zero_le _, rfl, HST⟩
 case round =>
  obtain ⟨k, la, lc, xs, rfl, hk, rfl, HR⟩ := hrel
  by_cases hlt : k < l.length
  ·have hltz : (k : Int) < (l.length : Int) := by omega
   obtain ⟨x, hx⟩ : ∃ x, l[k]? = some x := ⟨_, List.getElem?_eq_getElem hlt⟩
   obtain ⟨g, o, rfl, d0, d1, d2, hgl⟩ := (HA.out.below HR.out.bl).get hx
   have HX := Lib.hid hx
   clear hx
   have HC := Lib.hid (HF.out x _ : Calls Tryz.prog 147 #[.agg #[.int .i64 x.ver, .bool x.gone, .string x.body]] (wr.alloc (.cells #[.int .i64 x.ver, .bool x.gone, .string x.body] 55)) (VAns (b4ver x) (wr.alloc (.cells #[.int .i64 x.ver, .bool x.gone, .string x.body] 55))))
   have HGX : Hid ((l.map b4ver)[k]? = some (b4ver x)) := Lib.hid (by rw [List.getElem?_map, HX.out]; rfl)
   obtain ⟨y, hy⟩ : ∃ y, b4ver x = y := ⟨_, rfl⟩
   rw [hy] at HC HGX
   clear hy
   go_wp2_with fail
   refine HC.out.mono ?_
   rintro _ w2 ⟨hb2, ad2, cap2, rfl, hg2⟩
   have hbw : Below wr.heap.size wr w2 := ((Below.refl _ wr).alloc (Nat.le_refl _) _).trans (hb2.mono (by simp))
   have HG2 := Lib.hid (show RepG w2 (fun b => wr.heap.size ≤ b) ad2 y.l from hg2.to (fun b hb _ => ⟨(show wr.heap.size ≤ b by have hb1 : (wr.alloc (.cells #[.int .i64 x.ver, .bool x.gone, .string x.body] 55)).heap.size ≤ b := hb; simp at hb1; omega), rfl⟩))
   have HB2 := Lib.hid hbw
   obtain ⟨N, hN⟩ : ∃ N, y.l.len = N := ⟨_, rfl⟩
   rw [hN]
   have HN := Lib.hid hN
   have HOW := Lib.hid (owns_below HR.out.own (hbw.alloc hbw.size (.cells #[.int .i64 y.k, .int .i64 y.n, .string y.s, .slice ad2 N cap2] 88)))
   have HGE := Lib.hid (show w.heap.size + 1 ≤ (w2.alloc (.cells #[.int .i64 y.k, .int .i64 y.n, .string y.s, .slice ad2 N cap2] 88)).heap.size by have h1 := HR.out.ge; have h2 := hbw.size; simp; omega)
   clear hb2 hg2 hbw hN d0 d1 d2
   go_wp2_with (at_builtin; refine wpList_append_own_at _ rfl (.tmp 15) (.tmp 19) 86 rfl (w.heap.size + 1) 88 i0 _ 4 56 Tryz.underlying86 hi hz0 hz1 hz2 rfl (by decide) (.slice la k lc) k xs rfl HOW.out ⟨w2.heap.size, 0, none⟩ 1 1 [.int .i64 y.k, .int .i64 y.n, .string y.s, .slice ad2 N cap2] rfl rfl ?c1 ?c2 (by unfold maxLen; omega) (by omega) HGE.out ?_)
   case c1 => exact World.news_of_block (cs := #[.int .i64 y.k, .int .i64 y.n, .string y.s, .slice ad2 N cap2]) (heap_alloc_new w2 _)
   case c2 =>
    intro u hu
    simp at hu
    rcases hu with rfl | rfl | rfl | rfl <;> rfl
   intro v' w3 hown3 hgrow3 _ hloc3
   obtain ⟨la3, lc3, rfl, hE⟩ := HR.out.step HGX.out HB2.out HG2.out HN.out hown3 hgrow3 hloc3
   have HE := Lib.hid hE
   clear hown3 hgrow3 hloc3 hE
   go_wp2_with fail
   go_roundw
   case rel => exact ⟨k + 1, la3, lc3, _, by go_num, by omega, rfl, HE⟩
   case measure => simp [intOf]; omega
  ·have hltz : ¬ (k : Int) < (l.length : Int) := by omega
   obtain rfl : k = l.length := by omega
   go_wp2_with fail
   refine (blist_p la l.length lc _).mono ?_
   rintro _ w4 ⟨rfl, hb4⟩
   obtain ⟨hvc, hans⟩ := HR.out.fin (List.length_map ..) hb4
   have HANS := Lib.hid hans
   have HVC := Lib.hid (hvc.put 3 0 ⟨#[]⟩ la l.length lc)
   obtain ⟨⟨v0, v1, v2, v3⟩, f0, f1, f2, f3⟩ := hvc
   clear hb4 hans
   go_wp2_with fail
   obtain ⟨⟨t0, t1, t2, t3⟩, _⟩ := HVC.out
   exact bodyPost_ret (v := .agg #[.int .i64 3, .int .i64 0, .string ⟨#[]⟩, .slice la l.length lc]) (by simp [results, Tryz.results146, go_sem, t0, t1, t2, t3]) rfl HANS.out
theorem eeach_p (v : Value) (l : List En) (w : World) (h : EsAt w v l) (hn : l.length ≤ 1000000) (hf : ∀ (x : En) a c W, x ∈ l → VsAt W (.slice a x.vs.length c) x.vs → Calls Tryz.prog 106 #[.agg #[.string x.key, .slice a x.vs.length c]] W (VAns (b4ent x) W)) :
  Calls Tryz.prog 105 #[v, .func (.func 106) #[] #[]] w (VAns (b4list (l.map b4ent)) w) := by
 have eg : ∀ args w, (callFunc 106 args).run Tryz.prog w = .ok (.enter 106 args) w := enters_of Tryz.func106 (by kernel_rfl) rfl
 obtain ⟨i0, hi, hz0, hz1, hz2⟩ := info_parts infoVal
 obtain ⟨ad, cap, rfl, _⟩ := h.shape
 have HA := Lib.hid h
 have HF := Lib.hid hf
 have HST := Lib.hid (EachR.start w (l.map b4ent) 88)
 clear h hf
 go_enter Tryz.func105, Tryz.ntmps105
 go_wp2_with fail
 go_loopw [5, 11] (fun vv iv wr => ∃ (k : Nat) (la : Option Addr) (lc : Nat) (xs : List Value), iv = .int .i64 k ∧ k ≤ l.length ∧ vv = .slice la k lc ∧ Hid (EachR w (l.map b4ent) k la lc xs wr)) (fun _ iv _ => l.length - (intOf iv).toNat)
 case atStart => exact ⟨0, _, 0, [], rfl, Nat.zero_le _, rfl, HST⟩
 case round =>
  obtain ⟨k, la, lc, xs, rfl, hk, rfl, HR⟩ := hrel
  by_cases hlt : k < l.length
  ·have hltz : (k : Int) < (l.length : Int) := by omega
   obtain ⟨x, hx⟩ : ∃ x, l[k]? = some x := ⟨_, List.getElem?_eq_getElem hlt⟩
   obtain ⟨g, o, a, c, rfl, d0, d1, hgl, hV⟩ := (HA.out.below HR.out.bl).get hx
   have HX := Lib.hid hx
   clear hx
   have HV := Lib.hid hV
   clear hV
   have HC := Lib.hid (HF.out x a c _ (List.mem_of_getElem? HX.out) (HV.out.below ((Below.refl _ wr).alloc (Nat.le_refl _) _)) : Calls Tryz.prog 106 #[.agg #[.string x.key, .slice a x.vs.length c]] (wr.alloc (.cells #[.string x.key, .slice a x.vs.length c] 45)) (VAns (b4ent x) (wr.alloc (.cells #[.string x.key, .slice a x.vs.length c] 45))))
   have HGX : Hid ((l.map b4ent)[k]? = some (b4ent x)) := Lib.hid (by rw [List.getElem?_map, HX.out]; rfl)
   obtain ⟨y, hy⟩ : ∃ y, b4ent x = y := ⟨_, rfl⟩
   rw [hy] at HC HGX
   clear hy
   go_wp2_with fail
   refine HC.out.mono ?_
   rintro _ w2 ⟨hb2, ad2, cap2, rfl, hg2⟩
   have hbw : Below wr.heap.size wr w2 := ((Below.refl _ wr).alloc (Nat.le_refl _) _).trans (hb2.mono (by simp))
   have HG2 := Lib.hid (show RepG w2 (fun b => wr.heap.size ≤ b) ad2 y.l from hg2.to (fun b hb _ => ⟨(show wr.heap.size ≤ b by have hb1 : (wr.alloc (.cells #[.string x.key, .slice a x.vs.length c] 45)).heap.size ≤ b := hb; simp at hb1; omega), rfl⟩))
   have HB2 := Lib.hid hbw
   obtain ⟨N, hN⟩ : ∃ N, y.l.len = N := ⟨_, rfl⟩
   rw [hN]
   have HN := Lib.hid hN
   have HOW := Lib.hid (owns_below HR.out.own (hbw.alloc hbw.size (.cells #[.int .i64 y.k, .int .i64 y.n, .string y.s, .slice ad2 N cap2] 88)))
   have HGE := Lib.hid (show w.heap.size + 1 ≤ (w2.alloc (.cells #[.int .i64 y.k, .int .i64 y.n, .string y.s, .slice ad2 N cap2] 88)).heap.size by have h1 := HR.out.ge; have h2 := hbw.size; simp; omega)
   clear hb2 hg2 hbw hN d0 d1
   go_wp2_with (at_builtin; refine wpList_append_own_at _ rfl (.tmp 15) (.tmp 19) 86 rfl (w.heap.size + 1) 88 i0 _ 4 56 Tryz.underlying86 hi hz0 hz1 hz2 rfl (by decide) (.slice la k lc) k xs rfl HOW.out ⟨w2.heap.size, 0, none⟩ 1 1 [.int .i64 y.k, .int .i64 y.n, .string y.s, .slice ad2 N cap2] rfl rfl ?c1 ?c2 (by unfold maxLen; omega) (by omega) HGE.out ?_)
   case c1 => exact World.news_of_block (cs := #[.int .i64 y.k, .int .i64 y.n, .string y.s, .slice ad2 N cap2]) (heap_alloc_new w2 _)
   case c2 =>
    intro u hu
    simp at hu
    rcases hu with rfl | rfl | rfl | rfl <;> rfl
   intro v' w3 hown3 hgrow3 _ hloc3
   obtain ⟨la3, lc3, rfl, hE⟩ := HR.out.step HGX.out HB2.out HG2.out HN.out hown3 hgrow3 hloc3
   have HE := Lib.hid hE
   clear hown3 hgrow3 hloc3 hE
   go_wp2_with fail
   go_roundw
   case rel => exact ⟨k + 1, la3, lc3, _, by go_num, by omega, rfl, HE⟩
   case measure => simp [intOf]; omega
  ·have hltz : ¬ (k : Int) < (l.length : Int) := by omega
   obtain rfl : k = l.length := by omega
   go_wp2_with fail
   refine (blist_p la l.length lc _).mono ?_
   rintro _ w4 ⟨rfl, hb4⟩
   obtain ⟨hvc, hans⟩ := HR.out.fin (List.length_map ..) hb4
   have HANS := Lib.hid hans
   have HVC := Lib.hid (hvc.put 3 0 ⟨#[]⟩ la l.length lc)
   obtain ⟨⟨v0, v1, v2, v3⟩, f0, f1, f2, f3⟩ := hvc
   clear hb4 hans
   go_wp2_with fail
   obtain ⟨⟨t0, t1, t2, t3⟩, _⟩ := HVC.out
   exact bodyPost_ret (v := .agg #[.int .i64 3, .int .i64 0, .string ⟨#[]⟩, .slice la l.length lc]) (by simp [results, Tryz.results105, go_sem, t0, t1, t2, t3]) rfl HANS.out
theorem meach_p (v : Value) (l : List Me) (w : World) (h : MsAt w v l) (hn : l.length ≤ 1000000) (hf : ∀ (x : Me) W, Calls Tryz.prog 108 #[.agg #[.int .i64 x.req, .int .i64 x.res.err, .int .i64 x.res.ver]] W (VAns (b4mem x) W)) :
  Calls Tryz.prog 107 #[v, .func (.func 108) #[] #[]] w (VAns (b4list (l.map b4mem)) w) := by
 have eg : ∀ args w, (callFunc 108 args).run Tryz.prog w = .ok (.enter 108 args) w := enters_of Tryz.func108 (by kernel_rfl) rfl
 obtain ⟨i0, hi, hz0, hz1, hz2⟩ := info_parts infoVal
 obtain ⟨ad, cap, rfl, _⟩ := h.shape
 have HA := Lib.hid h
 have HF := Lib.hid hf
 have HST := Lib.hid (EachR.start w (l.map b4mem) 88)
 clear h hf
 go_enter Tryz.func107, Tryz.ntmps107
 go_wp2_with fail
 go_loopw [5, 11] (fun vv iv wr => ∃ (k : Nat) (la : Option Addr) (lc : Nat) (xs : List Value), iv = .int .i64 k ∧ k ≤ l.length ∧ vv = .slice la k lc ∧ Hid (EachR w (l.map b4mem) k la lc xs wr)) (fun _ iv _ => l.length - (intOf iv).toNat)
 case atStart => exact ⟨0, _, 0, [], rfl, Nat.zero_le _, rfl, HST⟩
 case round =>
  obtain ⟨k, la, lc, xs, rfl, hk, rfl, HR⟩ := hrel
  by_cases hlt : k < l.length
  ·have hltz : (k : Int) < (l.length : Int) := by omega
   obtain ⟨x, hx⟩ : ∃ x, l[k]? = some x := ⟨_, List.getElem?_eq_getElem hlt⟩
   obtain ⟨g, o, rfl, d0, d1, d2, hgl⟩ := (HA.out.below HR.out.bl).get hx
   have HX := Lib.hid hx
   clear hx
   have HC := Lib.hid (HF.out x _ : Calls Tryz.prog 108 #[.agg #[.int .i64 x.req, .int .i64 x.res.err, .int .i64 x.res.ver]] (wr.alloc (.cells #[.int .i64 x.req, .int .i64 x.res.err, .int .i64 x.res.ver] 76)) (VAns (b4mem x) (wr.alloc (.cells #[.int .i64 x.req, .int .i64 x.res.err, .int .i64 x.res.ver] 76))))
   have HGX : Hid ((l.map b4mem)[k]? = some (b4mem x)) := Lib.hid (by rw [List.getElem?_map, HX.out]; rfl)
   obtain ⟨y, hy⟩ : ∃ y, b4mem x = y := ⟨_, rfl⟩
   rw [hy] at HC HGX
   clear hy
   go_wp2_with fail
   refine HC.out.mono ?_
   rintro _ w2 ⟨hb2, ad2, cap2, rfl, hg2⟩
   have hbw : Below wr.heap.size wr w2 := ((Below.refl _ wr).alloc (Nat.le_refl _) _).trans (hb2.mono (by simp))
   have HG2 := Lib.hid (show RepG w2 (fun b => wr.heap.size ≤ b) ad2 y.l from hg2.to (fun b hb _ => ⟨(show wr.heap.size ≤ b by have hb1 : (wr.alloc (.cells #[.int .i64 x.req, .int .i64 x.res.err, .int .i64 x.res.ver] 76)).heap.size ≤ b := hb; simp at hb1; omega), rfl⟩))
   have HB2 := Lib.hid hbw
   obtain ⟨N, hN⟩ : ∃ N, y.l.len = N := ⟨_, rfl⟩
   rw [hN]
   have HN := Lib.hid hN
   have HOW := Lib.hid (owns_below HR.out.own (hbw.alloc hbw.size (.cells #[.int .i64 y.k, .int .i64 y.n, .string y.s, .slice ad2 N cap2] 88)))
   have HGE := Lib.hid (show w.heap.size + 1 ≤ (w2.alloc (.cells #[.int .i64 y.k, .int .i64 y.n, .string y.s, .slice ad2 N cap2] 88)).heap.size by have h1 := HR.out.ge; have h2 := hbw.size; simp; omega)
   clear hb2 hg2 hbw hN d0 d1 d2
   go_wp2_with (at_builtin; refine wpList_append_own_at _ rfl (.tmp 15) (.tmp 19) 86 rfl (w.heap.size + 1) 88 i0 _ 4 56 Tryz.underlying86 hi hz0 hz1 hz2 rfl (by decide) (.slice la k lc) k xs rfl HOW.out ⟨w2.heap.size, 0, none⟩ 1 1 [.int .i64 y.k, .int .i64 y.n, .string y.s, .slice ad2 N cap2] rfl rfl ?c1 ?c2 (by unfold maxLen; omega) (by omega) HGE.out ?_)
   case c1 => exact World.news_of_block (cs := #[.int .i64 y.k, .int .i64 y.n, .string y.s, .slice ad2 N cap2]) (heap_alloc_new w2 _)
   case c2 =>
    intro u hu
    simp at hu
    rcases hu with rfl | rfl | rfl | rfl <;> rfl
   intro v' w3 hown3 hgrow3 _ hloc3
   obtain ⟨la3, lc3, rfl, hE⟩ := HR.out.step HGX.out HB2.out HG2.out HN.out hown3 hgrow3 hloc3
   have HE := Lib.hid hE
   clear hown3 hgrow3 hloc3 hE
   go_wp2_with fail
   go_roundw
   case rel => exact ⟨k + 1, la3, lc3, _, by go_num, by omega, rfl, HE⟩
   case measure => simp [intOf]; omega
  ·have hltz : ¬ (k : Int) < (l.length : Int) := by omega
   obtain rfl : k = l.length := by omega
   go_wp2_with fail
   refine (blist_p la l.length lc _).mono ?_
   rintro _ w4 ⟨rfl, hb4⟩
   obtain ⟨hvc, hans⟩ := HR.out.fin (List.length_map ..) hb4
   have HANS := Lib.hid hans
   have HVC := Lib.hid (hvc.put 3 0 ⟨#[]⟩ la l.length lc)
   obtain ⟨⟨v0, v1, v2, v3⟩, f0, f1, f2, f3⟩ := hvc
   clear hb4 hans
   go_wp2_with fail
   obtain ⟨⟨t0, t1, t2, t3⟩, _⟩ := HVC.out
   exact bodyPost_ret (v := .agg #[.int .i64 3, .int .i64 0, .string ⟨#[]⟩, .slice la l.length lc]) (by simp [results, Tryz.results107, go_sem, t0, t1, t2, t3]) rfl HANS.out
theorem ieach_p (v : Value) (l : List Int) (w : World) (h : IsAt w v l) (hn : l.length ≤ 1000000) (hf : ∀ (x : Int) W, Calls Tryz.prog 104 #[.int .i64 x] W (VAns (b4num x) W)) :
  Calls Tryz.prog 109 #[v, .func (.func 104) #[] #[]] w (VAns (b4list (l.map b4num)) w) := by
 have eg : ∀ args w, (callFunc 104 args).run Tryz.prog w = .ok (.enter 104 args) w := enters_of Tryz.func104 (by kernel_rfl) rfl
 obtain ⟨i0, hi, hz0, hz1, hz2⟩ := info_parts infoVal
 obtain ⟨ad, cap, rfl, _⟩ := h.shape
 have HA := Lib.hid h
 have HF := Lib.hid hf
 have HST := Lib.hid (EachR.start w (l.map b4num) 88)
 clear h hf
 go_enter Tryz.func109, Tryz.ntmps109
 go_wp2_with fail
 go_loopw [5, 11] (fun vv iv wr => ∃ (k : Nat) (la : Option Addr) (lc : Nat) (xs : List Value), iv = .int .i64 k ∧ k ≤ l.length ∧ vv = .slice la k lc ∧ Hid (EachR w (l.map b4num) k la lc xs wr)) (fun _ iv _ => l.length - (intOf iv).toNat)
 case atStart => exact ⟨0, _, 0, [], rfl, Nat.zero_le _, rfl, HST⟩
 case round =>
  obtain ⟨k, la, lc, xs, rfl, hk, rfl, HR⟩ := hrel
  by_cases hlt : k < l.length
  ·have hltz : (k : Int) < (l.length : Int) := by omega
   obtain ⟨x, hx⟩ : ∃ x, l[k]? = some x := ⟨_, List.getElem?_eq_getElem hlt⟩
   obtain ⟨g, o, rfl, d0, hgl⟩ := (HA.out.below HR.out.bl).get hx
   have HX := Lib.hid hx
   clear hx
   have HC := Lib.hid (HF.out x _ : Calls Tryz.prog 104 #[.int .i64 x] wr (VAns (b4num x) wr))
   have HGX : Hid ((l.map b4num)[k]? = some (b4num x)) := Lib.hid (by rw [List.getElem?_map, HX.out]; rfl)
   obtain ⟨y, hy⟩ : ∃ y, b4num x = y := ⟨_, rfl⟩
   rw [hy] at HC HGX
   clear hy
   go_wp2_with fail
   refine HC.out.mono ?_
   rintro _ w2 ⟨hb2, ad2, cap2, rfl, hg2⟩
   have hbw : Below wr.heap.size wr w2 := hb2
   have HG2 := Lib.hid (show RepG w2 (fun b => wr.heap.size ≤ b) ad2 y.l from hg2)
   have HB2 := Lib.hid hbw
   obtain ⟨N, hN⟩ : ∃ N, y.l.len = N := ⟨_, rfl⟩
   rw [hN]
   have HN := Lib.hid hN
   have HOW := Lib.hid (owns_below HR.out.own (hbw.alloc hbw.size (.cells #[.int .i64 y.k, .int .i64 y.n, .string y.s, .slice ad2 N cap2] 88)))
   have HGE := Lib.hid (show w.heap.size + 1 ≤ (w2.alloc (.cells #[.int .i64 y.k, .int .i64 y.n, .string y.s, .slice ad2 N cap2] 88)).heap.size by have h1 := HR.out.ge; have h2 := hbw.size; simp; omega)
   clear hb2 hg2 hbw hN d0
   go_wp2_with (at_builtin; refine wpList_append_own_at _ rfl (.tmp 15) (.tmp 19) 86 rfl (w.heap.size + 1) 88 i0 _ 4 56 Tryz.underlying86 hi hz0 hz1 hz2 rfl (by decide) (.slice la k lc) k xs rfl HOW.out ⟨w2.heap.size, 0, none⟩ 1 1 [.int .i64 y.k, .int .i64 y.n, .string y.s, .slice ad2 N cap2] rfl rfl ?c1 ?c2 (by unfold maxLen; omega) (by omega) HGE.out ?_)
   case c1 => exact World.news_of_block (cs := #[.int .i64 y.k, .int .i64 y.n, .string y.s, .slice ad2 N cap2]) (heap_alloc_new w2 _)
   case c2 =>
    intro u hu
    simp at hu
    rcases hu with rfl | rfl | rfl | rfl <;> rfl
   intro v' w3 hown3 hgrow3 _ hloc3
   obtain ⟨la3, lc3, rfl, hE⟩ := HR.out.step HGX.out HB2.out HG2.out HN.out hown3 hgrow3 hloc3
   have HE := Lib.hid hE
   clear hown3 hgrow3 hloc3 hE
   go_wp2_with fail
   go_roundw
   case rel => exact ⟨k + 1, la3, lc3, _, by go_num, by omega, rfl, HE⟩
   case measure => simp [intOf]; omega
  ·have hltz : ¬ (k : Int) < (l.length : Int) := by omega
   obtain rfl : k = l.length := by omega
   go_wp2_with fail
   refine (blist_p la l.length lc _).mono ?_
   rintro _ w4 ⟨rfl, hb4⟩
   obtain ⟨hvc, hans⟩ := HR.out.fin (List.length_map ..) hb4
   have HANS := Lib.hid hans
   have HVC := Lib.hid (hvc.put 3 0 ⟨#[]⟩ la l.length lc)
   obtain ⟨⟨v0, v1, v2, v3⟩, f0, f1, f2, f3⟩ := hvc
   clear hb4 hans
   go_wp2_with fail
   obtain ⟨⟨t0, t1, t2, t3⟩, _⟩ := HVC.out
   exact bodyPost_ret (v := .agg #[.int .i64 3, .int .i64 0, .string ⟨#[]⟩, .slice la l.length lc]) (by simp [results, Tryz.results109, go_sem, t0, t1, t2, t3]) rfl HANS.out
def DeW (w : World) (b : Nat) : Prop := w.frozen? ⟨b, 0, none⟩ = false ∧ w.frozen? ⟨b, 1, none⟩ = false ∧ w.frozen? ⟨b, 2, none⟩ = false ∧ w.frozen? ⟨b, 3, none⟩ = false ∧ w.frozen? ⟨b, 4, none⟩ = false ∧ w.frozen? ⟨b, 5, none⟩ = false ∧ w.frozen? ⟨b, 6, none⟩ = false ∧ w.frozen? ⟨b, 7, none⟩ = false
theorem DeW.below {w w' : World} {b : Nat} (h : DeW w b) (hl : b < w.heap.size) (hb : Below w.heap.size w w') : DeW w' b := by
 have f (o : Nat) : w'.frozen? ⟨b, o, none⟩ = w.frozen? ⟨b, o, none⟩ := World.frozen?_of_block (a := ⟨b, o, none⟩) (hb.block b hl)
 obtain ⟨h0, h1, h2, h3, h4, h5, h6, h7⟩ := h
 exact ⟨by rw [f]; exact h0, by rw [f]; exact h1, by rw [f]; exact h2, by rw [f]; exact h3, by rw [f]; exact h4, by rw [f]; exact h5, by rw [f]; exact h6, by rw [f]; exact h7⟩
theorem putD_de {w : World} {b : Nat} {d' : De} (h : DeC w b d') (hw : DeW w b) (d : De) : DeC ((((((((w.setCell ⟨b, 0, none⟩ (.int .i64 d.kind)).setCell ⟨b, 1, none⟩ (.string d.key)).setCell ⟨b, 2, none⟩ (.string d.body)).setCell ⟨b, 3, none⟩ (.int .i64 d.ver)).setCell ⟨b, 4, none⟩ (.int .i64 d.cond)).setCell ⟨b, 5, none⟩ (.string d.tag)).setCell ⟨b, 6, none⟩ (.int .i64 d.req)).setCell ⟨b, 7, none⟩ (.int .i64 d.low)) b d := by
 obtain ⟨h0, h1, h2, h3, h4, h5, h6, h7⟩ := h
 obtain ⟨f0, f1, f2, f3, f4, f5, f6, f7⟩ := hw
 refine ⟨?_, ?_, ?_, ?_, ?_, ?_, ?_, ?_⟩ <;> go_simp
theorem putD_below {w w' : World} {b B : Nat} (h : Below B w w') (hb : B ≤ b) (d : De) : Below B w ((((((((w'.setCell ⟨b, 0, none⟩ (.int .i64 d.kind)).setCell ⟨b, 1, none⟩ (.string d.key)).setCell ⟨b, 2, none⟩ (.string d.body)).setCell ⟨b, 3, none⟩ (.int .i64 d.ver)).setCell ⟨b, 4, none⟩ (.int .i64 d.cond)).setCell ⟨b, 5, none⟩ (.string d.tag)).setCell ⟨b, 6, none⟩ (.int .i64 d.req)).setCell ⟨b, 7, none⟩ (.int .i64 d.low)) :=
 (((((((h.setCell (by simpa using hb) _).setCell (by simpa using hb) _).setCell (by simpa using hb) _).setCell (by simpa using hb) _).setCell (by simpa using hb) _).setCell (by simpa using hb) _).setCell (by simpa using hb) _).setCell (by simpa using hb) _
theorem same_key_p (key : ByteArray) (B : Nat) (w : World) (hB : B < w.heap.size) (hcell : w.cell? ⟨B, 0, none⟩ = some (.string key)) (W : World) (k : ByteArray) (ad : Option Addr) (n c : Nat) (R : Bool) (hR : R = true ↔ k = key) (hb : Below w.heap.size w W) :
  Calls Tryz.prog 89 #[.agg #[.string k, .slice ad n c], .pointer (some ⟨B, 0, none⟩)] W fun e w' => e = .returned (.bool R) ∧ Below w.heap.size w w' := by
 have hc : W.cell? ⟨B, 0, none⟩ = some (.string key) := (hb.cell (p := ⟨B, 0, none⟩) hB).trans hcell
 have hBW : B < W.heap.size := Nat.lt_of_lt_of_le hB hb.size
 have hne : B ≠ W.heap.size := by omega
 have hne' : W.heap.size ≠ B := by omega
 by_cases h : k = key
 ·obtain rfl : R = true := hR.2 h
  subst h
  go_enter Tryz.func89, Tryz.ntmps89
  go_wp2
  go_ret
  exact ⟨by simp, hb.alloc hb.size _⟩
 ·obtain rfl : R = false := by
   cases R with
   | false => rfl
   | true => exact absurd (hR.1 rfl) h
  have hkn : ¬ k.toList = key.toList := fun e => h (ba_toList_inj e)
  clear h hne hR
  go_enter Tryz.func89, Tryz.ntmps89
  go_wp2_with fail
  go_ret
  first | exact ⟨rfl, hb.alloc hb.size _⟩ | exact ⟨by simp [hkn], hb.alloc hb.size _⟩
def firstK (l : List En) (key : ByteArray) : Option Nat := l.findIdx? fun e => decide (e.key = key)
def firstI (l : List En) (key : ByteArray) : Int := match firstK l key with | some k => (k : Int) | none => -1
theorem first_hit {l : List En} {n : ByteArray} {k : Nat} {x : En} (hx : l[k]? = some x) (hn : x.key = n) (hb : ∀ j y, j < k → l[j]? = some y → y.key ≠ n) : firstK l n = some k := by
 have hk : k < l.length := (List.getElem?_eq_some_iff.1 hx).1
 refine List.findIdx?_eq_some_iff_getElem.2 ⟨hk, ?_, fun j hj => ?_⟩
 ·have : l[k] = x := (List.getElem?_eq_some_iff.1 hx).2
  rw [this]; simpa using hn
 ·have := hb j l[j] hj (List.getElem?_eq_getElem (by omega))
  simpa using this
theorem first_miss {l : List En} {n : ByteArray} (hb : ∀ j y, j < l.length → l[j]? = some y → y.key ≠ n) : firstK l n = none := by
 unfold firstK
 rw [List.findIdx?_eq_none_iff]
 intro x hx
 obtain ⟨j, hj, rfl⟩ := List.getElem_of_mem hx
 have := hb j l[j] hj (List.getElem?_eq_getElem hj)
 simpa using this
theorem eindex_p (v : Value) (l : List En) (n : ByteArray) (B : Nat) (w : World) (h : EsAt w v l) (hn : l.length ≤ 1000000) (hB : B < w.heap.size) (hcell : w.cell? ⟨B, 0, none⟩ = some (.string n)) :
  Calls Tryz.prog 88 #[v, .func (.func 89) #[] #[.pointer (some ⟨B, 0, none⟩)]] w fun e w' => e = .returned (.int .i64 (firstI l n)) ∧ Below w.heap.size w w' := by
 have eg : ∀ args w, (callFunc 89 args).run Tryz.prog w = .ok (.enter 89 args) w := enters_of Tryz.func89 (by kernel_rfl) rfl
 have HP := Lib.hid (same_key_p n B w hB hcell)
 clear hcell
 have HV := Lib.hid h
 obtain ⟨ad, cap, rfl, hcap⟩ := h.shape
 obtain ⟨R, hR⟩ : ∃ R, firstI l n = R := ⟨_, rfl⟩
 rw [hR]
 have HR := Lib.hid hR
 clear hR h
 go_enter Tryz.func88, Tryz.ntmps88
 go_wp2
 go_loopg [5, 8] l.length (fun gg _ s8 wr => ∃ kk : Nat, kk ≤ l.length ∧ l.length - kk ≤ gg ∧ s8 = .int .i64 kk ∧ Hid (Below w.heap.size w wr) ∧ Hid (∀ j y, j < kk → l[j]? = some y → y.key ≠ n))
 case atStart => exact ⟨0, Nat.zero_le _, by omega, rfl, Lib.hid (Below.refl _ _), Lib.hid (fun j y hj => absurd hj (Nat.not_lt_zero _))⟩
 case round =>
  obtain ⟨kk, hkk, hg, rfl, BW, A⟩ := hrel
  by_cases hlt : kk < l.length
  ·have hltz : (kk : Int) < (l.length : Int) := by omega
   obtain ⟨x, hx⟩ : ∃ x, l[kk]? = some x := ⟨_, List.getElem?_eq_getElem hlt⟩
   obtain ⟨g, o, a, m, rfl, c0, c1, _, _⟩ := (HV.out.below BW.out).get hx
   have HX := Lib.hid hx
   have hcall := fun R hR => HP.out wr x.key a x.vs.length m R hR BW.out
   clear hx
   by_cases hq : x.key = n
   ·obtain rfl : R = (kk : Int) := by
     rw [← HR.out]; unfold firstI; rw [first_hit HX.out hq A.out]
    have HC := Lib.hid (hcall true (by simp [hq]))
    clear hcall hq
    go_wp2_with fail
    refine HC.out.mono ?_
    rintro _ w' ⟨rfl, hb'⟩
    go_wp2_with fail
    go_ret
    exact ⟨rfl, hb'⟩
   ·have HN : Hid (∀ j y, j < kk + 1 → l[j]? = some y → y.key ≠ n) := Lib.hid (fun j y hj hy => by
     by_cases e : j = kk
     ·subst e
      rw [HX.out] at hy
      cases hy
      exact hq
     ·exact A.out j y (by omega) hy)
    have HC := Lib.hid (hcall false (by simp [hq]))
    clear hcall hq
    go_wp2_with fail
    refine HC.out.mono ?_
    rintro _ w' ⟨rfl, hb'⟩
    go_wp2_with fail
    go_roundg (l.length - (kk + 1))
    case measure => omega
    case rel => exact ⟨kk + 1, by omega, by omega, by go_num, Lib.hid hb', HN⟩
  ·have hltz : ¬ (kk : Int) < (l.length : Int) := by omega
   obtain rfl : R = -1 := by
    rw [← HR.out]; unfold firstI; rw [first_miss (fun j y hj => A.out j y (by omega))]
   go_wp2
   go_ret
   exact ⟨rfl, BW.out⟩
def versionE (l : List En) (key : ByteArray) (n : Int) : Ve × Bool :=
 match (firstK l key).bind fun k => l[k]? with
 | none => (Ve.zero, false)
 | some e => if n < 0 ∨ e.vs = [] then (Ve.zero, false) else if 0 < n then atE e.vs n else ((nowE e.vs).1, true)
theorem firstK_some {l : List En} {key : ByteArray} {k : Nat} (h : firstK l key = some k) : ∃ x, l[k]? = some x := by
 obtain ⟨hk, _⟩ := List.findIdx?_eq_some_iff_getElem.1 h
 exact ⟨_, List.getElem?_eq_getElem hk⟩
theorem version_p (s : Bk) (key : ByteArray) (n : Int) (u v : Value) (w : World) (h : BAt w s u v) :
  Calls Tryz.prog 49 #[bagg s u v, .string key, .int .i64 n] w fun e w' => e = .returned (vtup (versionE s.l key n).1 (versionE s.l key n).2) ∧ Below w.heap.size w w' := by
 obtain ⟨R, hR⟩ : ∃ R, versionE s.l key n = R := ⟨_, rfl⟩
 rw [hR]
 unfold versionE at hR
 obtain ⟨ad, cap, rfl, _⟩ := h.es.shape
 obtain ⟨ad', cap', rfl, _⟩ := h.ms.shape
 have hb0 : Below w.heap.size w (((w.alloc (.cells (bcells s (.slice ad s.l.length cap) (.slice ad' s.ms.length cap')) 27)).alloc (.cells #[.string key] 9)).alloc (.cells #[.int .i64 0, .bool false, .string ⟨#[]⟩] 55)) := (((Below.refl _ w).alloc (Nat.le_refl _) _).alloc (by simp) _).alloc (by simp; omega) _
 have hC : BC (((w.alloc (.cells (bcells s (.slice ad s.l.length cap) (.slice ad' s.ms.length cap')) 27)).alloc (.cells #[.string key] 9)).alloc (.cells #[.int .i64 0, .bool false, .string ⟨#[]⟩] 55)) w.heap.size s (.slice ad s.l.length cap) (.slice ad' s.ms.length cap') := ((BC.new w s _ _).below ((Below.refl _ _).alloc (Nat.le_refl _) _)).below ((Below.refl _ _).alloc (Nat.le_refl _) _)
 have hK : (((w.alloc (.cells (bcells s (.slice ad s.l.length cap) (.slice ad' s.ms.length cap')) 27)).alloc (.cells #[.string key] 9)).alloc (.cells #[.int .i64 0, .bool false, .string ⟨#[]⟩] 55)).cell? ⟨w.heap.size + 1, 0, none⟩ = some (.string key) := by go_simp
 have hV : VC3 (((w.alloc (.cells (bcells s (.slice ad s.l.length cap) (.slice ad' s.ms.length cap')) 27)).alloc (.cells #[.string key] 9)).alloc (.cells #[.int .i64 0, .bool false, .string ⟨#[]⟩] 55)) (w.heap.size + 2) Ve.zero := by
  have := VC3.new ((w.alloc (.cells (bcells s (.slice ad s.l.length cap) (.slice ad' s.ms.length cap')) 27)).alloc (.cells #[.string key] 9)) Ve.zero 55
  rw [show ((w.alloc (.cells (bcells s (.slice ad s.l.length cap) (.slice ad' s.ms.length cap')) 27)).alloc (.cells #[.string key] 9)).heap.size = w.heap.size + 2 by simp] at this
  exact this
 have hs : w.heap.size + 3 ≤ (((w.alloc (.cells (bcells s (.slice ad s.l.length cap) (.slice ad' s.ms.length cap')) 27)).alloc (.cells #[.string key] 9)).alloc (.cells #[.int .i64 0, .bool false, .string ⟨#[]⟩] 55)).heap.size := by simp
 have HI := Lib.hid (eindex_p _ s.l key (w.heap.size + 1) _ (h.below hb0).es h.short (by omega) hK)
 have HB := Lib.hid hb0
 have HA := Lib.hid (h.below hb0)
 have HC := Lib.hid hC
 have HV := Lib.hid hV
 have HR := Lib.hid hR
 clear h hb0 hK hR hC hV
 unfold bagg vtup
 have q1 := HC.out.cells.2.1
 unfold bcells at *
 go_enter Tryz.func49, Tryz.ntmps49
 go_wp2_with fail
 generalize ((w.alloc (.cells #[.int .i64 s.seq, .slice ad s.l.length cap, .slice ad' s.ms.length cap', .int .i64 s.l1, .int .i64 s.l2, .int .i64 s.l3, .int .i64 s.l4, .int .i64 s.l5] 27)).alloc (.cells #[.string key] 9)).alloc (.cells #[.int .i64 0, .bool false, .string ⟨#[]⟩] 55) = W at *
 clear q1
 refine HI.out.mono ?_
 rintro _ w1 ⟨rfl, hb1⟩
 have HB1 := Lib.hid (HB.out.trans (hb1.mono HB.out.size))
 have HA1 := Lib.hid (HA.out.below hb1)
 have HV1 := Lib.hid (HV.out.below hb1)
 have q1 := (HC.out.below hb1).cells.2.1
 have hs1 : w.heap.size + 3 ≤ w1.heap.size := by have := hb1.size; omega
 clear hb1
 have HZ : Hid (VC3 (((w1.setCell ⟨w.heap.size + 2, 0, none⟩ (.int .i64 0)).setCell ⟨w.heap.size + 2, 1, none⟩ (.bool false)).setCell ⟨w.heap.size + 2, 2, none⟩ (.string ⟨#[]⟩)) (w.heap.size + 2) Ve.zero) := Lib.hid (putV_ve HV1.out Ve.zero)
 have HBZ : Hid (Below w.heap.size w (((w1.setCell ⟨w.heap.size + 2, 0, none⟩ (.int .i64 0)).setCell ⟨w.heap.size + 2, 1, none⟩ (.bool false)).setCell ⟨w.heap.size + 2, 2, none⟩ (.string ⟨#[]⟩))) := Lib.hid (((HB1.out.setCell (p := ⟨w.heap.size + 2, 0, none⟩) (by simp) _).setCell (p := ⟨w.heap.size + 2, 1, none⟩) (by simp) _).setCell (p := ⟨w.heap.size + 2, 2, none⟩) (by simp) _)
 cases hf : firstK s.l key with
 | none =>
  have hi : firstI s.l key = -1 := by unfold firstI; rw [hf]
  have hR := HR.out
  rw [hf] at hR
  obtain rfl : R = (Ve.zero, false) := hR.symm
  rw [hi]
  clear hi hf hR
  obtain ⟨⟨z0, z1, z2⟩, y0, y1, y2⟩ := HV1.out
  dsimp only [Ve.zero] at z0 z1 z2 ⊢
  go_wp2_with fail
  obtain ⟨⟨t0, t1, t2⟩, _⟩ := HZ.out
  dsimp only [Ve.zero] at t0 t1 t2
  exact bodyPost_ret (v := .tuple #[.agg #[.int .i64 0, .bool false, .string ⟨#[]⟩], .bool false]) (by simp [results, Tryz.results49, go_sem, t0, t1, t2]) rfl ⟨rfl, HBZ.out⟩
 | some k =>
  obtain ⟨x, hx⟩ := firstK_some hf
  have hi : firstI s.l key = (k : Int) := by unfold firstI; rw [hf]
  have hR := HR.out
  rw [hf] at hR
  simp only [Option.bind_some, hx] at hR
  have hkl : k < s.l.length := (List.getElem?_eq_some_iff.1 hx).1
  have hkz : (k : Int) < (s.l.length : Int) := by omega
  have hk0 : decide ((k : Int) < 0) = false := decide_eq_false (by omega)
  have hvn := HA1.out.shortV x (List.mem_of_getElem? hx)
  obtain ⟨g, o, a, m, rfl, d0, d1, hgl, hvs⟩ := HA1.out.es.get hx
  rw [hi]
  clear hi hf hx hgl
  by_cases hn : n < 0
  ·rw [if_pos (Or.inl hn)] at hR
   obtain rfl : R = (Ve.zero, false) := hR.symm
   have hnd : decide (n < 0) = true := decide_eq_true hn
   clear hR
   obtain ⟨⟨z0, z1, z2⟩, y0, y1, y2⟩ := HV1.out
   dsimp only [Ve.zero] at z0 z1 z2 ⊢
   go_wp2_with fail
   obtain ⟨⟨t0, t1, t2⟩, _⟩ := HZ.out
   dsimp only [Ve.zero] at t0 t1 t2
   exact bodyPost_ret (v := .tuple #[.agg #[.int .i64 0, .bool false, .string ⟨#[]⟩], .bool false]) (by simp [results, Tryz.results49, go_sem, t0, t1, t2]) rfl ⟨rfl, HBZ.out⟩
  have hnd : decide (n < 0) = false := decide_eq_false hn
  by_cases hv0 : x.vs.length = 0
  ·have hve : x.vs = [] := List.length_eq_zero_iff.1 hv0
   rw [if_pos (Or.inr hve)] at hR
   obtain rfl : R = (Ve.zero, false) := hR.symm
   rw [hv0] at d1
   clear hR hve hvs
   obtain ⟨⟨z0, z1, z2⟩, y0, y1, y2⟩ := HV1.out
   dsimp only [Ve.zero] at z0 z1 z2 ⊢
   go_wp2_with fail
   obtain ⟨⟨t0, t1, t2⟩, _⟩ := HZ.out
   dsimp only [Ve.zero] at t0 t1 t2
   exact bodyPost_ret (v := .tuple #[.agg #[.int .i64 0, .bool false, .string ⟨#[]⟩], .bool false]) (by simp [results, Tryz.results49, go_sem, t0, t1, t2]) rfl ⟨rfl, HBZ.out⟩
  have hve : x.vs ≠ [] := fun e => hv0 (by rw [e]; rfl)
  rw [if_neg (fun h => h.elim hn hve)] at hR
  have hvz : ((x.vs.length : Int) == 0) = false := by rw [beq_eq_false_iff_ne]; omega
  by_cases hp : 0 < n
  ·rw [if_pos hp] at hR
   have HT := Lib.hid (at_p x.key _ x.vs n w1 hvs hvn)
   rw [hR] at HT
   unfold vtup at HT
   have hpd : decide (0 < n) = true := decide_eq_true hp
   clear hR hvs hve hv0
   go_wp2_with fail
   refine HT.out.mono ?_
   rintro _ w2 ⟨rfl, hb2⟩
   have HB2 := Lib.hid (HB1.out.trans (hb2.mono HB1.out.size))
   have HV2 := Lib.hid (HV1.out.below hb2)
   obtain ⟨⟨z0, z1, z2⟩, y0, y1, y2⟩ := HV2.out
   dsimp only [Ve.zero] at z0 z1 z2
   have hs2 : w.heap.size + 3 ≤ w2.heap.size := by have := hb2.size; omega
   clear hb2
   have hF := putV_ve HV2.out R.1
   have hFB := ((HB2.out.setCell (p := ⟨w.heap.size + 2, 0, none⟩) (by simp) (.int .i64 R.1.ver)).setCell (p := ⟨w.heap.size + 2, 1, none⟩) (by simp) (.bool R.1.gone)).setCell (p := ⟨w.heap.size + 2, 2, none⟩) (by simp) (.string R.1.body)
   have HF := Lib.hid (And.intro hF hFB)
   clear hF hFB
   go_wp2_with fail
   obtain ⟨⟨t0, t1, t2⟩, _⟩ := HF.out.1
   exact bodyPost_ret (v := .tuple #[.agg #[.int .i64 R.1.ver, .bool R.1.gone, .string R.1.body], .bool R.2]) (by simp [results, Tryz.results49, go_sem, t0, t1, t2]) rfl ⟨rfl, HF.out.2⟩
  ·rw [if_neg hp] at hR
   obtain ⟨Rv, Rb⟩ := R
   simp only [Prod.mk.injEq] at hR
   obtain ⟨hR1, rfl⟩ := hR
   have HT := Lib.hid (now_p x.key _ x.vs w1 hvs hvn)
   unfold vtup at HT
   rw [hR1] at HT
   have hpd : decide (0 < n) = false := decide_eq_false hp
   clear hvs hve hv0
   generalize (nowE x.vs).2 = Qb at *
   go_wp2_with fail
   refine HT.out.mono ?_
   rintro _ w2 ⟨rfl, hb2⟩
   have HB2 := Lib.hid (HB1.out.trans (hb2.mono HB1.out.size))
   have HV2 := Lib.hid (HV1.out.below hb2)
   obtain ⟨⟨z0, z1, z2⟩, y0, y1, y2⟩ := HV2.out
   dsimp only [Ve.zero] at z0 z1 z2
   have hs2 : w.heap.size + 3 ≤ w2.heap.size := by have := hb2.size; omega
   have hne : ¬ w.heap.size + 1 + 1 = w2.heap.size := by omega
   have hne' : ¬ w2.heap.size = w.heap.size + 1 + 1 := by omega
   rw [show w.heap.size + 2 = w.heap.size + 1 + 1 from rfl] at z0 z1 z2 y0 y1 y2
   clear hb2
   have hVa := HV2.out.below ((Below.refl _ _).alloc (Nat.le_refl _) (.cells #[.int .i64 Rv.ver, .bool Rv.gone, .string Rv.body] 55))
   have hF := putV_ve hVa Rv
   have hFB := (((HB2.out.alloc HB2.out.size (.cells #[.int .i64 Rv.ver, .bool Rv.gone, .string Rv.body] 55)).setCell (p := ⟨w.heap.size + 2, 0, none⟩) (by simp) (.int .i64 Rv.ver)).setCell (p := ⟨w.heap.size + 2, 1, none⟩) (by simp) (.bool Rv.gone)).setCell (p := ⟨w.heap.size + 2, 2, none⟩) (by simp) (.string Rv.body)
   have HF := Lib.hid (And.intro hF hFB)
   obtain ⟨⟨a0, a1, a2⟩, b0, b1, b2⟩ := hVa
   rw [show w.heap.size + 2 = w.heap.size + 1 + 1 from rfl] at a0 a1 a2 b0 b1 b2
   clear hF hFB z0 z1 z2 y0 y1 y2
   go_wp2_with fail
   obtain ⟨⟨t0, t1, t2⟩, _⟩ := HF.out.1
   exact bodyPost_ret (v := .tuple #[.agg #[.int .i64 Rv.ver, .bool Rv.gone, .string Rv.body], .bool true]) (by simp [results, Tryz.results49, go_sem, t0, t1, t2]) rfl ⟨rfl, HF.out.2⟩
end Go.Proofs.YtlpgphiccjkenaaGreatDoor
