/-
 Contracts of the program, and what they rest on.
-/
import Derived.Test.YtlpgphiccjkenaaGreatDoorTk
import Derived.Test.YtlpgphiccjkenaaGreatDoorM23
import Derived.Test.YtlpgphiccjkenaaGreatDoorM15
set_option maxRecDepth 100000
set_option maxHeartbeats 16000000
namespace Go.Proofs.YtlpgphiccjkenaaGreatDoor
open Go.RowKit
def bookOf4 (x : V4) : Bk := ⟨(x.l.th 0).n, (F.list (x.l.th 1).l).map entOf4, (F.list (x.l.th 2).l).map memOf4, ((x.l.th 3).l.th 0).n, ((x.l.th 3).l.th 1).n, ((x.l.th 3).l.th 2).n, ((x.l.th 3).l.th 3).n, ((x.l.th 3).l.th 4).n⟩
theorem F.th_cnt : ∀ (f : F) (j : Nat), (f.th j).l.cnt ≤ f.cnt
 | .nil, _ => Nat.le_refl _
 | .cons _ _ _ l r, 0 => by simp only [F.th, F.cnt]; omega
 | .cons _ _ _ l r, j + 1 => by have := F.th_cnt r j; simp only [F.th, F.cnt]; omega
theorem F.list_cnt : ∀ (f : F) (x : V4), x ∈ F.list f → x.l.cnt ≤ f.cnt
 | .nil, _, h => by cases h
 | .cons _ _ _ l r, x, h => by
  simp only [F.list, List.mem_cons] at h
  rcases h with rfl | h
  ·simp only [F.cnt]; omega
  ·have := F.list_cnt r x h
   simp only [F.cnt]; omega
theorem CelV5 {w w' : World} {b : Nat} {k n : Int} {s : ByteArray} {ad : Option Addr} {N cap : Nat} (h : w.cell? ⟨b, 0, none⟩ = some (.int .i64 k) ∧ w.cell? ⟨b, 1, none⟩ = some (.int .i64 n) ∧ w.cell? ⟨b, 2, none⟩ = some (.string s) ∧ w.cell? ⟨b, 3, none⟩ = some (.slice ad N cap)) (e : w'.heap[b]? = w.heap[b]?) :
  w'.cell? ⟨b, 0, none⟩ = some (.int .i64 k) ∧ w'.cell? ⟨b, 1, none⟩ = some (.int .i64 n) ∧ w'.cell? ⟨b, 2, none⟩ = some (.string s) ∧ w'.cell? ⟨b, 3, none⟩ = some (.slice ad N cap) := by
 rw [cell_congr e, cell_congr e, cell_congr e, cell_congr e]
 exact h
structure OfW (w : World) (k n : Int) (s : ByteArray) (ad : Option Addr) (N cap X : Nat) (b : Bk) (u v : Value) (Y : World) : Prop where
 bl : Below w.heap.size w Y
 bx : Y.cell? ⟨w.heap.size, 0, none⟩ = some (.int .i64 k) ∧ Y.cell? ⟨w.heap.size, 1, none⟩ = some (.int .i64 n) ∧ Y.cell? ⟨w.heap.size, 2, none⟩ = some (.string s) ∧ Y.cell? ⟨w.heap.size, 3, none⟩ = some (.slice ad N cap)
 rz : BC Y (w.heap.size + 1) Bk.zero (.slice none 0 0) (.slice none 0 0)
 bc : BC Y X b u v
 ge : w.heap.size + 2 ≤ X
 es : EOwn Y (w.heap.size + 2) u b.l
 ms : MOwn Y (w.heap.size + 2) v b.ms
theorem OfW.below {w Y Y' : World} {k n : Int} {s : ByteArray} {ad : Option Addr} {N cap X : Nat} {b : Bk} {u v : Value} (h : OfW w k n s ad N cap X b u v Y) (hb : Below Y.heap.size Y Y') : OfW w k n s ad N cap X b u v Y' := by
 have h1 := h.rz.lt
 exact ⟨h.bl.trans (hb.mono h.bl.size), CelV5 h.bx (hb.block _ (by omega)), h.rz.below hb, h.bc.below hb, h.ge, h.es.below hb, h.ms.below hb⟩
theorem OfW.low {w Y : World} {k n : Int} {s : ByteArray} {ad : Option Addr} {N cap X : Nat} {b b' : Bk} {u v : Value} (h : OfW w k n s ad N cap X b u v Y) (j : Nat) (x : Int) (hl : b'.l = b.l) (hm : b'.ms = b.ms) (hc : (bcells b u v).setIfInBounds j (.int .i64 x) = bcells b' u v) : OfW w k n s ad N cap X b' u v (Y.setCell ⟨X, j, none⟩ (.int .i64 x)) := by
 have hg := h.ge
 have k0 : ∀ i, i ≠ X → (Y.setCell ⟨X, j, none⟩ (.int .i64 x)).heap[i]? = Y.heap[i]? := fun i hi => Below.heap_setCell _ _ _ _ hi
 refine ⟨h.bl.setCell (p := ⟨X, j, none⟩) (by show w.heap.size ≤ X; omega) _, CelV5 h.bx (k0 _ (by omega)), (k0 _ (by omega)).trans h.rz, ?_, hg, ?_, ?_⟩
 ·have := heap_setCell_same Y X j _ _ (.int .i64 x) h.bc
  unfold BC
  rw [this, hc]
 ·rw [hl]; exact h.es.off h.bc (by decide) (by decide)
 ·rw [hm]; exact h.ms.off h.bc (by decide)
theorem OfW.put {w Y : World} {k n : Int} {s : ByteArray} {ad : Option Addr} {N cap X : Nat} {b b' : Bk} {u v u' v' : Value} (h : OfW w k n s ad N cap X b u v Y) (hu : EOwn Y (w.heap.size + 2) u' b'.l) (hv : MOwn Y (w.heap.size + 2) v' b'.ms) : OfW w k n s ad N cap X b' u' v' (bstore Y X b' u' v') := by
 have hg := h.ge
 have k0 : ∀ i, i ≠ X → (bstore Y X b' u' v').heap[i]? = Y.heap[i]? := fun i hi => bstore_heap _ _ _ _ _ hi
 have e0 : ∀ {T : TypeId} {z : Value} {B k n : Nat} {cs : List Value}, Y.ownsRow B T k z n cs → 27 ≠ T → (bstore Y X b' u' v').ownsRow B T k z n cs := fun hr hT => row_kept hr (fun g hg => k0 g (fun e => row_off hr h.bc hT (by rw [hg, e])))
 refine ⟨bstore_below b' u' v' (by omega) h.bl, CelV5 h.bx (k0 _ (by omega)), (k0 _ (by omega)).trans h.rz, h.bc.store, hg, ?_, ?_⟩
 ·obtain ⟨ps, hr, hf⟩ := hu
  exact ⟨ps, e0 hr (by decide), hf.map (fun _ _ hz => e0 hz (by decide))⟩
 ·exact e0 hv (by decide)
theorem OfW.fin {w Y : World} {k n : Int} {s : ByteArray} {ad : Option Addr} {N cap X : Nat} {b : Bk} {u v : Value} (h : OfW w k n s ad N cap X b u v Y) :
  BC (bstore Y (w.heap.size + 1) b u v) (w.heap.size + 1) b u v ∧ EOwn (bstore Y (w.heap.size + 1) b u v) w.heap.size u b.l ∧ MOwn (bstore Y (w.heap.size + 1) b u v) w.heap.size v b.ms ∧ Below w.heap.size w (bstore Y (w.heap.size + 1) b u v) := by
 have k0 : ∀ i, i ≠ w.heap.size + 1 → (bstore Y (w.heap.size + 1) b u v).heap[i]? = Y.heap[i]? := fun i hi => bstore_heap _ _ _ _ _ hi
 refine ⟨h.rz.store, (h.es.kept (fun j hj _ => k0 j (by omega))).mono (by omega), (h.ms.kept (fun j hj _ => k0 j (by omega))).mono (by omega), bstore_below b u v (by omega) h.bl⟩
def lowsTo (b : Bk) (g : Nat → Int) : Nat → Bk
 | 0 => b
 | 1 => ⟨b.seq, b.l, b.ms, g 0, b.l2, b.l3, b.l4, b.l5⟩
 | 2 => ⟨b.seq, b.l, b.ms, g 0, g 1, b.l3, b.l4, b.l5⟩
 | 3 => ⟨b.seq, b.l, b.ms, g 0, g 1, g 2, b.l4, b.l5⟩
 | 4 => ⟨b.seq, b.l, b.ms, g 0, g 1, g 2, g 3, b.l5⟩
 | _ => ⟨b.seq, b.l, b.ms, g 0, g 1, g 2, g 3, g 4⟩
theorem bookof_p (x : V4) (ad : Option Addr) (cap : Nat) (w : World) (h : RepG w (fun _ => True) ad x.l) (hc : x.l.cnt ≤ 1000000) :
  Calls Tryz.prog 54 #[.agg #[.int .i64 x.k, .int .i64 x.n, .string x.s, .slice ad x.l.len cap]] w (BAns (bookOf4 x) w) := by
 obtain ⟨k, n, s, l⟩ := x
 dsimp only at h hc ⊢
 unfold bookOf4
 dsimp only
 have HP0 : Hid (∀ W, RepG W (fun _ => True) ad l → Calls Tryz.prog 98 #[.agg #[.int .i64 k, .int .i64 n, .string s, .slice ad l.len cap], .int .i64 0] W (PAns (l.th 0) W)) := Lib.hid (fun W hW => part_p k n s l ad cap 0 W hW)
 have HP1 : Hid (∀ W, RepG W (fun _ => True) ad l → Calls Tryz.prog 98 #[.agg #[.int .i64 k, .int .i64 n, .string s, .slice ad l.len cap], .int .i64 1] W (PAns (l.th 1) W)) := Lib.hid (fun W hW => part_p k n s l ad cap 1 W hW)
 have HP2 : Hid (∀ W, RepG W (fun _ => True) ad l → Calls Tryz.prog 98 #[.agg #[.int .i64 k, .int .i64 n, .string s, .slice ad l.len cap], .int .i64 2] W (PAns (l.th 2) W)) := Lib.hid (fun W hW => part_p k n s l ad cap 2 W hW)
 have HP3 : Hid (∀ W, RepG W (fun _ => True) ad l → Calls Tryz.prog 98 #[.agg #[.int .i64 k, .int .i64 n, .string s, .slice ad l.len cap], .int .i64 3] W (PAns (l.th 3) W)) := Lib.hid (fun W hW => part_p k n s l ad cap 3 W hW)
 have HR := Lib.hid h
 have hl1 := Nat.le_trans (F.th_cnt l 1) hc
 have hl2 := Nat.le_trans (F.th_cnt l 2) hc
 have HE := Lib.hid (fun a c W (hW : RepG W (fun _ => True) a (l.th 1).l) => eall_p (l.th 1).k (l.th 1).n (l.th 1).s (l.th 1).l a c W hW (Nat.le_trans (F.len_le_cnt _) hl1) (fun x a c W hx hr => entof_p x a c W hr (Nat.le_trans (F.len_le_cnt _) (Nat.le_trans (F.th_cnt x.l 1) (Nat.le_trans (F.list_cnt _ x hx) hl1)))))
 have HM := Lib.hid (fun a c W (hW : RepG W (fun _ => True) a (l.th 2).l) => mall_p (l.th 2).k (l.th 2).n (l.th 2).s (l.th 2).l a c W hW (Nat.le_trans (F.len_le_cnt _) hl2) (fun x a c W _ hr => memof_p x a c W hr))
 have HEL := Lib.hid (show ((F.list (l.th 1).l).map entOf4).length = (l.th 1).l.len by rw [List.length_map, F.list_len])
 have HML := Lib.hid (show ((F.list (l.th 2).l).map memOf4).length = (l.th 2).l.len by rw [List.length_map, F.list_len])
 have HQ0 : Hid (∀ a c W, RepG W (fun _ => True) a (l.th 3).l → Calls Tryz.prog 98 #[.agg #[.int .i64 (l.th 3).k, .int .i64 (l.th 3).n, .string (l.th 3).s, .slice a (l.th 3).l.len c], .int .i64 0] W (PAns ((l.th 3).l.th 0) W)) := Lib.hid (fun a c W hW => part_p (l.th 3).k (l.th 3).n (l.th 3).s (l.th 3).l a c 0 W hW)
 have HQ1 : Hid (∀ a c W, RepG W (fun _ => True) a (l.th 3).l → Calls Tryz.prog 98 #[.agg #[.int .i64 (l.th 3).k, .int .i64 (l.th 3).n, .string (l.th 3).s, .slice a (l.th 3).l.len c], .int .i64 1] W (PAns ((l.th 3).l.th 1) W)) := Lib.hid (fun a c W hW => part_p (l.th 3).k (l.th 3).n (l.th 3).s (l.th 3).l a c 1 W hW)
 have HQ2 : Hid (∀ a c W, RepG W (fun _ => True) a (l.th 3).l → Calls Tryz.prog 98 #[.agg #[.int .i64 (l.th 3).k, .int .i64 (l.th 3).n, .string (l.th 3).s, .slice a (l.th 3).l.len c], .int .i64 2] W (PAns ((l.th 3).l.th 2) W)) := Lib.hid (fun a c W hW => part_p (l.th 3).k (l.th 3).n (l.th 3).s (l.th 3).l a c 2 W hW)
 have HQ3 : Hid (∀ a c W, RepG W (fun _ => True) a (l.th 3).l → Calls Tryz.prog 98 #[.agg #[.int .i64 (l.th 3).k, .int .i64 (l.th 3).n, .string (l.th 3).s, .slice a (l.th 3).l.len c], .int .i64 3] W (PAns ((l.th 3).l.th 3) W)) := Lib.hid (fun a c W hW => part_p (l.th 3).k (l.th 3).n (l.th 3).s (l.th 3).l a c 3 W hW)
 have HQ4 : Hid (∀ a c W, RepG W (fun _ => True) a (l.th 3).l → Calls Tryz.prog 98 #[.agg #[.int .i64 (l.th 3).k, .int .i64 (l.th 3).n, .string (l.th 3).s, .slice a (l.th 3).l.len c], .int .i64 4] W (PAns ((l.th 3).l.th 4) W)) := Lib.hid (fun a c W hW => part_p (l.th 3).k (l.th 3).n (l.th 3).s (l.th 3).l a c 4 W hW)
 clear hl1 hl2 h hc
 generalize (F.list (l.th 1).l).map entOf4 = LE at *
 generalize (F.list (l.th 2).l).map memOf4 = LM at *
 generalize l.th 0 = p0 at *
 generalize l.th 1 = p1 at *
 generalize l.th 2 = p2 at *
 generalize l.th 3 = p3 at *
 generalize l.len = N at *
 unfold BAns
 dsimp only
 rw [HEL.out, HML.out]
 have HB : Hid (Below w.heap.size w ((w.alloc (.cells #[.int .i64 k, .int .i64 n, .string s, .slice ad N cap] 88)).alloc (.cells #[.int .i64 0, .slice none 0 0, .slice none 0 0, .int .i64 0, .int .i64 0, .int .i64 0, .int .i64 0, .int .i64 0] 27))) := Lib.hid (((Below.refl _ _).alloc (Nat.le_refl _) _).alloc (by simp) _)
 have HS0 : Hid (∀ W, W = ((w.alloc (.cells #[.int .i64 k, .int .i64 n, .string s, .slice ad N cap] 88)).alloc (.cells #[.int .i64 0, .slice none 0 0, .slice none 0 0, .int .i64 0, .int .i64 0, .int .i64 0, .int .i64 0, .int .i64 0] 27)) → (W.cell? ⟨w.heap.size, 0, none⟩ = some (.int .i64 k) ∧ W.cell? ⟨w.heap.size, 1, none⟩ = some (.int .i64 n) ∧ W.cell? ⟨w.heap.size, 2, none⟩ = some (.string s) ∧ W.cell? ⟨w.heap.size, 3, none⟩ = some (.slice ad N cap)) ∧ BC W (w.heap.size + 1) Bk.zero (.slice none 0 0) (.slice none 0 0) ∧ w.heap.size + 2 ≤ W.heap.size) := Lib.hid (by
  rintro _ rfl
  refine ⟨⟨?_, ?_, ?_, ?_⟩, ?_, by simp⟩
  ·go_simp
  ·go_simp
  ·go_simp
  ·go_simp
  ·have := heap_alloc_new (w.alloc (.cells #[.int .i64 k, .int .i64 n, .string s, .slice ad N cap] 88)) (.cells #[.int .i64 0, .slice none 0 0, .slice none 0 0, .int .i64 0, .int .i64 0, .int .i64 0, .int .i64 0, .int .i64 0] 27)
   unfold BC bcells Bk.zero
   simpa using this)
 unfold bagg
 dsimp only
 go_enter Tryz.func54, Tryz.ntmps54
 go_wp2_with fail
 generalize ((w.alloc (.cells #[.int .i64 k, .int .i64 n, .string s, .slice ad N cap] 88)).alloc (.cells #[.int .i64 0, .slice none 0 0, .slice none 0 0, .int .i64 0, .int .i64 0, .int .i64 0, .int .i64 0, .int .i64 0] 27)) = W at *
 obtain ⟨hc, hv, hsz⟩ := HS0.out W rfl
 have HS : Hid (∀ W', Below W.heap.size W W' → W'.cell? ⟨w.heap.size, 0, none⟩ = some (.int .i64 k) ∧ W'.cell? ⟨w.heap.size, 1, none⟩ = some (.int .i64 n) ∧ W'.cell? ⟨w.heap.size, 2, none⟩ = some (.string s) ∧ W'.cell? ⟨w.heap.size, 3, none⟩ = some (.slice ad N cap)) := Lib.hid (fun W' hW => by
  obtain ⟨s0, s1, s2, s3⟩ := hc
  exact ⟨cell_kept hW (Nat.le_refl _) s0, cell_kept hW (Nat.le_refl _) s1, cell_kept hW (Nat.le_refl _) s2, cell_kept hW (Nat.le_refl _) s3⟩)
 have HV := Lib.hid hv
 clear hc hv HS0
 have hS0 := HS.out _ (Below.refl W.heap.size W).drew
 refine wp_region_last (S := fun W' => W'.cell? ⟨w.heap.size, 0, none⟩ = some (.int .i64 k) ∧ W'.cell? ⟨w.heap.size, 1, none⟩ = some (.int .i64 n) ∧ W'.cell? ⟨w.heap.size, 2, none⟩ = some (.string s) ∧ W'.cell? ⟨w.heap.size, 3, none⟩ = some (.slice ad N cap)) (by kernel_rfl) (ops := List.toArray [_, _, _, _, _, _, _, _, _, _, _]) (o := _) rfl (by kernel_rfl) ?_
 refine tk 0 (.agg #[.int .i64 k, .int .i64 n, .string s, .slice ad N cap]) rfl ?_ hS0 ?_
 ·intro w' ⟨s0, s1, s2, s3⟩; go_simp
 refine tk 3 (.agg #[.int .i64 k, .int .i64 n, .string s, .slice ad N cap]) rfl ?_ hS0 ?_
 ·intro w' ⟨s0, s1, s2, s3⟩; go_simp
 refine tk 6 (.agg #[.int .i64 k, .int .i64 n, .string s, .slice ad N cap]) rfl ?_ hS0 ?_
 ·intro w' ⟨s0, s1, s2, s3⟩; go_simp
 simp only [List.getElem_toArray, List.getElem_cons_succ, List.getElem_cons_zero, Act.put, List.setIfInBounds_toArray, List.set_cons_zero, List.set_cons_succ]
 have HX0 := Lib.hid (Below.refl W.heap.size W).drew
 clear hS0
 refine wpAnyH_ready (rs := [1, 10]) (by kernel_rfl) (by simp) ?_
 refine (AllReadyH.cons rfl (fun K hK => ?_) (AllReadyH.cons rfl (fun K hK => ?arm0) AllReadyH.nil))
 simp only [List.getElem_toArray, List.getElem_cons_succ, List.getElem_cons_zero]
 go_simp
 refine (HP0.out _ (HR.out.down (HB.out.trans (HX0.out.mono HB.out.size)))).mono ?_
 rintro _ y1 ⟨hy, a1, c1, rfl, hg⟩
 have HX1 := Lib.hid (HX0.out.trans (hy.mono HX0.out.size))
 have HG := Lib.hid hg
 clear hy hg
 refine hK.out _ _ (HS.out _ HX1.out) (fun _ => ?_)
 clear hK
 have hS := HS.out _ HX1.out
 refine tk 2 (.int .i64 p0.n) rfl ?_ hS ?_
 ·intro w' ⟨s0, s1, s2, s3⟩; go_simp; rw [fld1]; rfl
 simp only [List.getElem_toArray, List.getElem_cons_succ, List.getElem_cons_zero, Act.put, List.setIfInBounds_toArray, List.set_cons_zero, List.set_cons_succ]
 clear hS
 refine wpAnyH_ready (rs := [4, 10]) (by kernel_rfl) (by simp) ?_
 refine (AllReadyH.cons rfl (fun K hK => ?_) (AllReadyH.cons rfl (fun K hK => ?arm1) AllReadyH.nil))
 simp only [List.getElem_toArray, List.getElem_cons_succ, List.getElem_cons_zero]
 go_simp
 refine (HP1.out _ (HR.out.down (HB.out.trans (HX1.out.mono HB.out.size)))).mono ?_
 rintro _ y2 ⟨hy, a2, c2, rfl, hg⟩
 have HX2 := Lib.hid (HX1.out.trans (hy.mono HX1.out.size))
 have HG := Lib.hid hg
 clear hy hg
 refine hK.out _ _ (HS.out _ HX2.out) (fun _ => ?_)
 clear hK
 refine wpAnyH_ready (rs := [5, 10]) (by kernel_rfl) (by simp) ?_
 refine (AllReadyH.cons rfl (fun K hK => ?_) (AllReadyH.cons rfl (fun K hK => ?arm2) AllReadyH.nil))
 simp only [List.getElem_toArray, List.getElem_cons_succ, List.getElem_cons_zero]
 go_simp
 refine (HE.out a2 c2 _ HG.out).mono ?_
 rintro _ y3 ⟨a3, c3, rfl, ho, hy⟩
 have HX3 := Lib.hid (HX2.out.trans (hy.mono HX2.out.size))
 have HEO := Lib.hid (ho.mono (show w.heap.size + 2 ≤ _ by have := HX2.out.size; omega))
 clear hy ho HG
 refine hK.out _ _ (HS.out _ HX3.out) (fun _ => ?_)
 clear hK
 refine wpAnyH_ready (rs := [7, 10]) (by kernel_rfl) (by simp) ?_
 refine (AllReadyH.cons rfl (fun K hK => ?_) (AllReadyH.cons rfl (fun K hK => ?arm3) AllReadyH.nil))
 simp only [List.getElem_toArray, List.getElem_cons_succ, List.getElem_cons_zero]
 go_simp
 refine (HP2.out _ (HR.out.down (HB.out.trans (HX3.out.mono HB.out.size)))).mono ?_
 rintro _ y4 ⟨hy, a4, c4, rfl, hg⟩
 have HX4 := Lib.hid (HX3.out.trans (hy.mono HX3.out.size))
 replace HEO := Lib.hid (HEO.out.below hy)
 have HG := Lib.hid hg
 clear hy hg
 refine hK.out _ _ (HS.out _ HX4.out) (fun _ => ?_)
 clear hK
 refine wpAnyH_ready (rs := [8, 10]) (by kernel_rfl) (by simp) ?_
 refine (AllReadyH.cons rfl (fun K hK => ?_) (AllReadyH.cons rfl (fun K hK => ?arm4) AllReadyH.nil))
 simp only [List.getElem_toArray, List.getElem_cons_succ, List.getElem_cons_zero]
 go_simp
 refine (HM.out a4 c4 _ HG.out).mono ?_
 rintro _ y5 ⟨a5, c5, rfl, ho, hy⟩
 have HX5 := Lib.hid (HX4.out.trans (hy.mono HX4.out.size))
 replace HEO := Lib.hid (HEO.out.below hy)
 have HMO := Lib.hid (ho.mono (show w.heap.size + 2 ≤ _ by have := HX4.out.size; omega))
 clear hy ho HG
 refine hK.out _ _ (HS.out _ HX5.out) (fun _ => ?_)
 clear hK
 have hS := HS.out _ HX5.out
 refine tk 9 (.agg #[.int .i64 p0.n, .slice a3 p1.l.len c3, .slice a5 p2.l.len c5, .int .i64 0, .int .i64 0, .int .i64 0, .int .i64 0, .int .i64 0]) rfl ?_ hS ?_
 ·intro w' ⟨s0, s1, s2, s3⟩; go_simp
 simp only [List.getElem_toArray, List.getElem_cons_succ, List.getElem_cons_zero, Act.put, List.setIfInBounds_toArray, List.set_cons_zero, List.set_cons_succ]
 clear hS
 refine wpAnyH_ready (rs := [10]) (by kernel_rfl) (by simp) ?_
 refine (AllReadyH.cons rfl (fun K hK => ?_) AllReadyH.nil)
 simp only [List.getElem_toArray, List.getElem_cons_succ, List.getElem_cons_zero]
 go_simp
 have hy : Below y5.heap.size y5 (y5.alloc (.cells #[.int .i64 0, .slice none 0 0, .slice none 0 0, .int .i64 0, .int .i64 0, .int .i64 0, .int .i64 0, .int .i64 0] 27)) := (Below.refl _ _).alloc (Nat.le_refl _) _
 have HX6 := Lib.hid (HX5.out.trans (hy.mono HX5.out.size))
 replace HEO := Lib.hid (HEO.out.below hy)
 replace HMO := Lib.hid (HMO.out.below hy)
 skip
 have HBX : Hid (BC (y5.alloc (.cells #[.int .i64 0, .slice none 0 0, .slice none 0 0, .int .i64 0, .int .i64 0, .int .i64 0, .int .i64 0, .int .i64 0] 27)) y5.heap.size Bk.zero (.slice none 0 0) (.slice none 0 0)) := Lib.hid (BC.new _ Bk.zero _ _)
 have hgx : w.heap.size + 2 ≤ y5.heap.size := Nat.le_trans hsz HX5.out.size
 refine hK.out _ _ (HS.out _ HX6.out) (fun _ => ?_)
 clear hK hy
 generalize y5.alloc (.cells #[.int .i64 0, .slice none 0 0, .slice none 0 0, .int .i64 0, .int .i64 0, .int .i64 0, .int .i64 0, .int .i64 0] 27) = y6 at *
 generalize y5.heap.size = X at *
 case' arm4 =>
  simp only [List.getElem_toArray, List.getElem_cons_succ, List.getElem_cons_zero]
  go_simp
  have hy : Below y4.heap.size y4 (y4.alloc (.cells #[.int .i64 0, .slice none 0 0, .slice none 0 0, .int .i64 0, .int .i64 0, .int .i64 0, .int .i64 0, .int .i64 0] 27)) := (Below.refl _ _).alloc (Nat.le_refl _) _
  have HX5 := Lib.hid (HX4.out.trans (hy.mono HX4.out.size))
  replace HEO := Lib.hid (HEO.out.below hy)
  have HG2 := Lib.hid (HG.out.down hy)
  have HBX : Hid (BC (y4.alloc (.cells #[.int .i64 0, .slice none 0 0, .slice none 0 0, .int .i64 0, .int .i64 0, .int .i64 0, .int .i64 0, .int .i64 0] 27)) y4.heap.size Bk.zero (.slice none 0 0) (.slice none 0 0)) := Lib.hid (BC.new _ Bk.zero _ _)
  have hgx : w.heap.size + 2 ≤ y4.heap.size := Nat.le_trans hsz HX4.out.size
  refine hK.out _ _ (HS.out _ HX5.out) (fun _ => ?_)
  clear hK hy
  clear HG
  have HG := HG2
  clear HG2
  generalize y4.alloc (.cells #[.int .i64 0, .slice none 0 0, .slice none 0 0, .int .i64 0, .int .i64 0, .int .i64 0, .int .i64 0, .int .i64 0] 27) = y5 at *
  generalize y4.heap.size = X at *
  refine wpAnyH_ready (rs := [8]) (by kernel_rfl) (by simp) ?_
  refine (AllReadyH.cons rfl (fun K hK => ?_) AllReadyH.nil)
  simp only [List.getElem_toArray, List.getElem_cons_succ, List.getElem_cons_zero]
  go_simp
  refine (HM.out a4 c4 _ HG.out).mono ?_
  rintro _ y6 ⟨a5, c5, rfl, ho, hy⟩
  have HX6 := Lib.hid (HX5.out.trans (hy.mono HX5.out.size))
  replace HEO := Lib.hid (HEO.out.below hy)
  replace HBX := Lib.hid (HBX.out.below hy)
  have HMO := Lib.hid (ho.mono (show w.heap.size + 2 ≤ _ by have := HX5.out.size; omega))
  clear hy ho HG
  refine hK.out _ _ (HS.out _ HX6.out) (fun _ => ?_)
  clear hK
  have hS := HS.out _ HX6.out
  refine tk 9 (.agg #[.int .i64 p0.n, .slice a3 p1.l.len c3, .slice a5 p2.l.len c5, .int .i64 0, .int .i64 0, .int .i64 0, .int .i64 0, .int .i64 0]) rfl ?_ hS ?_
  ·intro w' ⟨s0, s1, s2, s3⟩; go_simp
  simp only [List.getElem_toArray, List.getElem_cons_succ, List.getElem_cons_zero, Act.put, List.setIfInBounds_toArray, List.set_cons_zero, List.set_cons_succ]
  clear hS
 case' arm3 =>
  simp only [List.getElem_toArray, List.getElem_cons_succ, List.getElem_cons_zero]
  go_simp
  have hy : Below y3.heap.size y3 (y3.alloc (.cells #[.int .i64 0, .slice none 0 0, .slice none 0 0, .int .i64 0, .int .i64 0, .int .i64 0, .int .i64 0, .int .i64 0] 27)) := (Below.refl _ _).alloc (Nat.le_refl _) _
  have HX4 := Lib.hid (HX3.out.trans (hy.mono HX3.out.size))
  replace HEO := Lib.hid (HEO.out.below hy)
  skip
  have HBX : Hid (BC (y3.alloc (.cells #[.int .i64 0, .slice none 0 0, .slice none 0 0, .int .i64 0, .int .i64 0, .int .i64 0, .int .i64 0, .int .i64 0] 27)) y3.heap.size Bk.zero (.slice none 0 0) (.slice none 0 0)) := Lib.hid (BC.new _ Bk.zero _ _)
  have hgx : w.heap.size + 2 ≤ y3.heap.size := Nat.le_trans hsz HX3.out.size
  refine hK.out _ _ (HS.out _ HX4.out) (fun _ => ?_)
  clear hK hy
  generalize y3.alloc (.cells #[.int .i64 0, .slice none 0 0, .slice none 0 0, .int .i64 0, .int .i64 0, .int .i64 0, .int .i64 0, .int .i64 0] 27) = y4 at *
  generalize y3.heap.size = X at *
  refine wpAnyH_ready (rs := [7]) (by kernel_rfl) (by simp) ?_
  refine (AllReadyH.cons rfl (fun K hK => ?_) AllReadyH.nil)
  simp only [List.getElem_toArray, List.getElem_cons_succ, List.getElem_cons_zero]
  go_simp
  refine (HP2.out _ (HR.out.down (HB.out.trans (HX4.out.mono HB.out.size)))).mono ?_
  rintro _ y5 ⟨hy, a4, c4, rfl, hg⟩
  have HX5 := Lib.hid (HX4.out.trans (hy.mono HX4.out.size))
  replace HEO := Lib.hid (HEO.out.below hy)
  replace HBX := Lib.hid (HBX.out.below hy)
  have HG := Lib.hid hg
  clear hy hg
  refine hK.out _ _ (HS.out _ HX5.out) (fun _ => ?_)
  clear hK
  refine wpAnyH_ready (rs := [8]) (by kernel_rfl) (by simp) ?_
  refine (AllReadyH.cons rfl (fun K hK => ?_) AllReadyH.nil)
  simp only [List.getElem_toArray, List.getElem_cons_succ, List.getElem_cons_zero]
  go_simp
  refine (HM.out a4 c4 _ HG.out).mono ?_
  rintro _ y6 ⟨a5, c5, rfl, ho, hy⟩
  have HX6 := Lib.hid (HX5.out.trans (hy.mono HX5.out.size))
  replace HEO := Lib.hid (HEO.out.below hy)
  replace HBX := Lib.hid (HBX.out.below hy)
  have HMO := Lib.hid (ho.mono (show w.heap.size + 2 ≤ _ by have := HX5.out.size; omega))
  clear hy ho HG
  refine hK.out _ _ (HS.out _ HX6.out) (fun _ => ?_)
  clear hK
  have hS := HS.out _ HX6.out
  refine tk 9 (.agg #[.int .i64 p0.n, .slice a3 p1.l.len c3, .slice a5 p2.l.len c5, .int .i64 0, .int .i64 0, .int .i64 0, .int .i64 0, .int .i64 0]) rfl ?_ hS ?_
  ·intro w' ⟨s0, s1, s2, s3⟩; go_simp
  simp only [List.getElem_toArray, List.getElem_cons_succ, List.getElem_cons_zero, Act.put, List.setIfInBounds_toArray, List.set_cons_zero, List.set_cons_succ]
  clear hS
 case' arm2 =>
  simp only [List.getElem_toArray, List.getElem_cons_succ, List.getElem_cons_zero]
  go_simp
  have hy : Below y2.heap.size y2 (y2.alloc (.cells #[.int .i64 0, .slice none 0 0, .slice none 0 0, .int .i64 0, .int .i64 0, .int .i64 0, .int .i64 0, .int .i64 0] 27)) := (Below.refl _ _).alloc (Nat.le_refl _) _
  have HX3 := Lib.hid (HX2.out.trans (hy.mono HX2.out.size))
  have HG2 := Lib.hid (HG.out.down hy)
  have HBX : Hid (BC (y2.alloc (.cells #[.int .i64 0, .slice none 0 0, .slice none 0 0, .int .i64 0, .int .i64 0, .int .i64 0, .int .i64 0, .int .i64 0] 27)) y2.heap.size Bk.zero (.slice none 0 0) (.slice none 0 0)) := Lib.hid (BC.new _ Bk.zero _ _)
  have hgx : w.heap.size + 2 ≤ y2.heap.size := Nat.le_trans hsz HX2.out.size
  refine hK.out _ _ (HS.out _ HX3.out) (fun _ => ?_)
  clear hK hy
  clear HG
  have HG := HG2
  clear HG2
  generalize y2.alloc (.cells #[.int .i64 0, .slice none 0 0, .slice none 0 0, .int .i64 0, .int .i64 0, .int .i64 0, .int .i64 0, .int .i64 0] 27) = y3 at *
  generalize y2.heap.size = X at *
  refine wpAnyH_ready (rs := [5]) (by kernel_rfl) (by simp) ?_
  refine (AllReadyH.cons rfl (fun K hK => ?_) AllReadyH.nil)
  simp only [List.getElem_toArray, List.getElem_cons_succ, List.getElem_cons_zero]
  go_simp
  refine (HE.out a2 c2 _ HG.out).mono ?_
  rintro _ y4 ⟨a3, c3, rfl, ho, hy⟩
  have HX4 := Lib.hid (HX3.out.trans (hy.mono HX3.out.size))
  replace HBX := Lib.hid (HBX.out.below hy)
  have HEO := Lib.hid (ho.mono (show w.heap.size + 2 ≤ _ by have := HX3.out.size; omega))
  clear hy ho HG
  refine hK.out _ _ (HS.out _ HX4.out) (fun _ => ?_)
  clear hK
  refine wpAnyH_ready (rs := [7]) (by kernel_rfl) (by simp) ?_
  refine (AllReadyH.cons rfl (fun K hK => ?_) AllReadyH.nil)
  simp only [List.getElem_toArray, List.getElem_cons_succ, List.getElem_cons_zero]
  go_simp
  refine (HP2.out _ (HR.out.down (HB.out.trans (HX4.out.mono HB.out.size)))).mono ?_
  rintro _ y5 ⟨hy, a4, c4, rfl, hg⟩
  have HX5 := Lib.hid (HX4.out.trans (hy.mono HX4.out.size))
  replace HBX := Lib.hid (HBX.out.below hy)
  replace HEO := Lib.hid (HEO.out.below hy)
  have HG := Lib.hid hg
  clear hy hg
  refine hK.out _ _ (HS.out _ HX5.out) (fun _ => ?_)
  clear hK
  refine wpAnyH_ready (rs := [8]) (by kernel_rfl) (by simp) ?_
  refine (AllReadyH.cons rfl (fun K hK => ?_) AllReadyH.nil)
  simp only [List.getElem_toArray, List.getElem_cons_succ, List.getElem_cons_zero]
  go_simp
  refine (HM.out a4 c4 _ HG.out).mono ?_
  rintro _ y6 ⟨a5, c5, rfl, ho, hy⟩
  have HX6 := Lib.hid (HX5.out.trans (hy.mono HX5.out.size))
  replace HBX := Lib.hid (HBX.out.below hy)
  replace HEO := Lib.hid (HEO.out.below hy)
  have HMO := Lib.hid (ho.mono (show w.heap.size + 2 ≤ _ by have := HX5.out.size; omega))
  clear hy ho HG
  refine hK.out _ _ (HS.out _ HX6.out) (fun _ => ?_)
  clear hK
  have hS := HS.out _ HX6.out
  refine tk 9 (.agg #[.int .i64 p0.n, .slice a3 p1.l.len c3, .slice a5 p2.l.len c5, .int .i64 0, .int .i64 0, .int .i64 0, .int .i64 0, .int .i64 0]) rfl ?_ hS ?_
  ·intro w' ⟨s0, s1, s2, s3⟩; go_simp
  simp only [List.getElem_toArray, List.getElem_cons_succ, List.getElem_cons_zero, Act.put, List.setIfInBounds_toArray, List.set_cons_zero, List.set_cons_succ]
  clear hS
 case' arm1 =>
  simp only [List.getElem_toArray, List.getElem_cons_succ, List.getElem_cons_zero]
  go_simp
  have hy : Below y1.heap.size y1 (y1.alloc (.cells #[.int .i64 0, .slice none 0 0, .slice none 0 0, .int .i64 0, .int .i64 0, .int .i64 0, .int .i64 0, .int .i64 0] 27)) := (Below.refl _ _).alloc (Nat.le_refl _) _
  have HX2 := Lib.hid (HX1.out.trans (hy.mono HX1.out.size))
  skip
  have HBX : Hid (BC (y1.alloc (.cells #[.int .i64 0, .slice none 0 0, .slice none 0 0, .int .i64 0, .int .i64 0, .int .i64 0, .int .i64 0, .int .i64 0] 27)) y1.heap.size Bk.zero (.slice none 0 0) (.slice none 0 0)) := Lib.hid (BC.new _ Bk.zero _ _)
  have hgx : w.heap.size + 2 ≤ y1.heap.size := Nat.le_trans hsz HX1.out.size
  refine hK.out _ _ (HS.out _ HX2.out) (fun _ => ?_)
  clear hK hy
  generalize y1.alloc (.cells #[.int .i64 0, .slice none 0 0, .slice none 0 0, .int .i64 0, .int .i64 0, .int .i64 0, .int .i64 0, .int .i64 0] 27) = y2 at *
  generalize y1.heap.size = X at *
  refine wpAnyH_ready (rs := [4]) (by kernel_rfl) (by simp) ?_
  refine (AllReadyH.cons rfl (fun K hK => ?_) AllReadyH.nil)
  simp only [List.getElem_toArray, List.getElem_cons_succ, List.getElem_cons_zero]
  go_simp
  refine (HP1.out _ (HR.out.down (HB.out.trans (HX2.out.mono HB.out.size)))).mono ?_
  rintro _ y3 ⟨hy, a2, c2, rfl, hg⟩
  have HX3 := Lib.hid (HX2.out.trans (hy.mono HX2.out.size))
  replace HBX := Lib.hid (HBX.out.below hy)
  have HG := Lib.hid hg
  clear hy hg
  refine hK.out _ _ (HS.out _ HX3.out) (fun _ => ?_)
  clear hK
  refine wpAnyH_ready (rs := [5]) (by kernel_rfl) (by simp) ?_
  refine (AllReadyH.cons rfl (fun K hK => ?_) AllReadyH.nil)
  simp only [List.getElem_toArray, List.getElem_cons_succ, List.getElem_cons_zero]
  go_simp
  refine (HE.out a2 c2 _ HG.out).mono ?_
  rintro _ y4 ⟨a3, c3, rfl, ho, hy⟩
  have HX4 := Lib.hid (HX3.out.trans (hy.mono HX3.out.size))
  replace HBX := Lib.hid (HBX.out.below hy)
  have HEO := Lib.hid (ho.mono (show w.heap.size + 2 ≤ _ by have := HX3.out.size; omega))
  clear hy ho HG
  refine hK.out _ _ (HS.out _ HX4.out) (fun _ => ?_)
  clear hK
  refine wpAnyH_ready (rs := [7]) (by kernel_rfl) (by simp) ?_
  refine (AllReadyH.cons rfl (fun K hK => ?_) AllReadyH.nil)
  simp only [List.getElem_toArray, List.getElem_cons_succ, List.getElem_cons_zero]
  go_simp
  refine (HP2.out _ (HR.out.down (HB.out.trans (HX4.out.mono HB.out.size)))).mono ?_
  rintro _ y5 ⟨hy, a4, c4, rfl, hg⟩
  have HX5 := Lib.hid (HX4.out.trans (hy.mono HX4.out.size))
  replace HBX := Lib.hid (HBX.out.below hy)
  replace HEO := Lib.hid (HEO.out.below hy)
  have HG := Lib.hid hg
  clear hy hg
  refine hK.out _ _ (HS.out _ HX5.out) (fun _ => ?_)
  clear hK
  refine wpAnyH_ready (rs := [8]) (by kernel_rfl) (by simp) ?_
  refine (AllReadyH.cons rfl (fun K hK => ?_) AllReadyH.nil)
  simp only [List.getElem_toArray, List.getElem_cons_succ, List.getElem_cons_zero]
  go_simp
  refine (HM.out a4 c4 _ HG.out).mono ?_
  rintro _ y6 ⟨a5, c5, rfl, ho, hy⟩
  have HX6 := Lib.hid (HX5.out.trans (hy.mono HX5.out.size))
  replace HBX := Lib.hid (HBX.out.below hy)
  replace HEO := Lib.hid (HEO.out.below hy)
  have HMO := Lib.hid (ho.mono (show w.heap.size + 2 ≤ _ by have := HX5.out.size; omega))
  clear hy ho HG
  refine hK.out _ _ (HS.out _ HX6.out) (fun _ => ?_)
  clear hK
  have hS := HS.out _ HX6.out
  refine tk 9 (.agg #[.int .i64 p0.n, .slice a3 p1.l.len c3, .slice a5 p2.l.len c5, .int .i64 0, .int .i64 0, .int .i64 0, .int .i64 0, .int .i64 0]) rfl ?_ hS ?_
  ·intro w' ⟨s0, s1, s2, s3⟩; go_simp
  simp only [List.getElem_toArray, List.getElem_cons_succ, List.getElem_cons_zero, Act.put, List.setIfInBounds_toArray, List.set_cons_zero, List.set_cons_succ]
  clear hS
 case' arm0 =>
  simp only [List.getElem_toArray, List.getElem_cons_succ, List.getElem_cons_zero]
  go_simp
  have hy : Below W.drew.heap.size W.drew ((W.alloc (.cells #[.int .i64 0, .slice none 0 0, .slice none 0 0, .int .i64 0, .int .i64 0, .int .i64 0, .int .i64 0, .int .i64 0] 27)).drew) := show Below W.drew.heap.size W.drew (W.drew.alloc _) from (Below.refl _ _).alloc (Nat.le_refl _) _
  have HX1 := Lib.hid (HX0.out.trans (hy.mono HX0.out.size))
  skip
  have HBX : Hid (BC ((W.alloc (.cells #[.int .i64 0, .slice none 0 0, .slice none 0 0, .int .i64 0, .int .i64 0, .int .i64 0, .int .i64 0, .int .i64 0] 27)).drew) W.drew.heap.size Bk.zero (.slice none 0 0) (.slice none 0 0)) := Lib.hid (show BC (W.drew.alloc _) W.drew.heap.size Bk.zero _ _ from BC.new _ Bk.zero _ _)
  have hgx : w.heap.size + 2 ≤ W.drew.heap.size := Nat.le_trans hsz HX0.out.size
  refine hK.out _ _ (HS.out _ HX1.out) (fun _ => ?_)
  clear hK hy
  generalize (W.alloc (.cells #[.int .i64 0, .slice none 0 0, .slice none 0 0, .int .i64 0, .int .i64 0, .int .i64 0, .int .i64 0, .int .i64 0] 27)).drew = y1 at *
  have hdw : W.drew.heap.size = W.heap.size := rfl
  rw [hdw] at HBX hgx
  clear hdw
  obtain ⟨X, hX⟩ : ∃ X, W.heap.size = X := ⟨_, rfl⟩
  rw [hX] at HBX hgx ⊢
  refine wpAnyH_ready (rs := [1]) (by kernel_rfl) (by simp) ?_
  refine (AllReadyH.cons rfl (fun K hK => ?_) AllReadyH.nil)
  simp only [List.getElem_toArray, List.getElem_cons_succ, List.getElem_cons_zero]
  go_simp
  refine (HP0.out _ (HR.out.down (HB.out.trans (HX1.out.mono HB.out.size)))).mono ?_
  rintro _ y2 ⟨hy, a1, c1, rfl, hg⟩
  have HX2 := Lib.hid (HX1.out.trans (hy.mono HX1.out.size))
  replace HBX := Lib.hid (HBX.out.below hy)
  have HG := Lib.hid hg
  clear hy hg
  refine hK.out _ _ (HS.out _ HX2.out) (fun _ => ?_)
  clear hK
  have hS := HS.out _ HX2.out
  refine tk 2 (.int .i64 p0.n) rfl ?_ hS ?_
  ·intro w' ⟨s0, s1, s2, s3⟩; go_simp; rw [fld1]; rfl
  simp only [List.getElem_toArray, List.getElem_cons_succ, List.getElem_cons_zero, Act.put, List.setIfInBounds_toArray, List.set_cons_zero, List.set_cons_succ]
  clear hS
  refine wpAnyH_ready (rs := [4]) (by kernel_rfl) (by simp) ?_
  refine (AllReadyH.cons rfl (fun K hK => ?_) AllReadyH.nil)
  simp only [List.getElem_toArray, List.getElem_cons_succ, List.getElem_cons_zero]
  go_simp
  refine (HP1.out _ (HR.out.down (HB.out.trans (HX2.out.mono HB.out.size)))).mono ?_
  rintro _ y3 ⟨hy, a2, c2, rfl, hg⟩
  have HX3 := Lib.hid (HX2.out.trans (hy.mono HX2.out.size))
  replace HBX := Lib.hid (HBX.out.below hy)
  have HG := Lib.hid hg
  clear hy hg
  refine hK.out _ _ (HS.out _ HX3.out) (fun _ => ?_)
  clear hK
  refine wpAnyH_ready (rs := [5]) (by kernel_rfl) (by simp) ?_
  refine (AllReadyH.cons rfl (fun K hK => ?_) AllReadyH.nil)
  simp only [List.getElem_toArray, List.getElem_cons_succ, List.getElem_cons_zero]
  go_simp
  refine (HE.out a2 c2 _ HG.out).mono ?_
  rintro _ y4 ⟨a3, c3, rfl, ho, hy⟩
  have HX4 := Lib.hid (HX3.out.trans (hy.mono HX3.out.size))
  replace HBX := Lib.hid (HBX.out.below hy)
  have HEO := Lib.hid (ho.mono (show w.heap.size + 2 ≤ _ by have := HX3.out.size; omega))
  clear hy ho HG
  refine hK.out _ _ (HS.out _ HX4.out) (fun _ => ?_)
  clear hK
  refine wpAnyH_ready (rs := [7]) (by kernel_rfl) (by simp) ?_
  refine (AllReadyH.cons rfl (fun K hK => ?_) AllReadyH.nil)
  simp only [List.getElem_toArray, List.getElem_cons_succ, List.getElem_cons_zero]
  go_simp
  refine (HP2.out _ (HR.out.down (HB.out.trans (HX4.out.mono HB.out.size)))).mono ?_
  rintro _ y5 ⟨hy, a4, c4, rfl, hg⟩
  have HX5 := Lib.hid (HX4.out.trans (hy.mono HX4.out.size))
  replace HBX := Lib.hid (HBX.out.below hy)
  replace HEO := Lib.hid (HEO.out.below hy)
  have HG := Lib.hid hg
  clear hy hg
  refine hK.out _ _ (HS.out _ HX5.out) (fun _ => ?_)
  clear hK
  refine wpAnyH_ready (rs := [8]) (by kernel_rfl) (by simp) ?_
  refine (AllReadyH.cons rfl (fun K hK => ?_) AllReadyH.nil)
  simp only [List.getElem_toArray, List.getElem_cons_succ, List.getElem_cons_zero]
  go_simp
  refine (HM.out a4 c4 _ HG.out).mono ?_
  rintro _ y6 ⟨a5, c5, rfl, ho, hy⟩
  have HX6 := Lib.hid (HX5.out.trans (hy.mono HX5.out.size))
  replace HBX := Lib.hid (HBX.out.below hy)
  replace HEO := Lib.hid (HEO.out.below hy)
  have HMO := Lib.hid (ho.mono (show w.heap.size + 2 ≤ _ by have := HX5.out.size; omega))
  clear hy ho HG
  refine hK.out _ _ (HS.out _ HX6.out) (fun _ => ?_)
  clear hK
  have hS := HS.out _ HX6.out
  refine tk 9 (.agg #[.int .i64 p0.n, .slice a3 p1.l.len c3, .slice a5 p2.l.len c5, .int .i64 0, .int .i64 0, .int .i64 0, .int .i64 0, .int .i64 0]) rfl ?_ hS ?_
  ·intro w' ⟨s0, s1, s2, s3⟩; go_simp
  simp only [List.getElem_toArray, List.getElem_cons_succ, List.getElem_cons_zero, Act.put, List.setIfInBounds_toArray, List.set_cons_zero, List.set_cons_succ]
  clear hS
 all_goals
  refine wpAnyH_done (by kernel_rfl) ?_ _
  have hof : OfW w k n s ad N cap X ⟨0, [], [], 0, 0, 0, 0, 0⟩ (.slice none 0 0) (.slice none 0 0) y6 := ⟨HB.out.trans (HX6.out.mono HB.out.size), HS.out _ HX6.out, HV.out.below HX6.out, HBX.out, hgx, ⟨[], World.ownsRow_nil _ _ _ _, trivial⟩, World.ownsRow_nil _ _ _ _⟩
  have HO := Lib.hid (hof.put (b' := ⟨p0.n, LE, LM, 0, 0, 0, 0, 0⟩) HEO.out HMO.out)
  obtain ⟨x0, x1, x2, x3, x4, x5, x6, x7⟩ := hof.bc.cells
  dsimp only at x0 x1 x2 x3 x4 x5 x6 x7
  have f0 := hof.bc.free 0
  have f1 := hof.bc.free 1
  have f2 := hof.bc.free 2
  have f3 := hof.bc.free 3
  have f4 := hof.bc.free 4
  have f5 := hof.bc.free 5
  have f6 := hof.bc.free 6
  have f7 := hof.bc.free 7
  clear hof HEO HMO HBX HS HV
  rw [Exit.then]
  rw [if_pos (by rfl)]
  go_simp
  go_wp2_with fail
  unfold bstore at HO
  dsimp only at HO
  generalize ((((((((y6.setCell ⟨X, 0, none⟩ (.int .i64 p0.n)).setCell ⟨X, 1, none⟩ (.slice a3 p1.l.len c3)).setCell ⟨X, 2, none⟩ (.slice a5 p2.l.len c5)).setCell ⟨X, 3, none⟩ (.int .i64 0)).setCell ⟨X, 4, none⟩ (.int .i64 0)).setCell ⟨X, 5, none⟩ (.int .i64 0)).setCell ⟨X, 6, none⟩ (.int .i64 0)).setCell ⟨X, 7, none⟩ (.int .i64 0)) = Y at *
  clear x0 x1 x2 x3 x4 x5 x6 x7 f0 f1 f2 f3 f4 f5 f6 f7
  go_loopw [15] (fun iv wr => ∃ q : Nat, iv = .int .i64 q ∧ q ≤ 5 ∧ Hid (OfW w k n s ad N cap X (lowsTo ⟨p0.n, LE, LM, 0, 0, 0, 0, 0⟩ (fun j => (p3.l.th j).n) q) (.slice a3 p1.l.len c3) (.slice a5 p2.l.len c5) wr)) (fun iv _ => 5 - (intOf iv).toNat)
  case atStart => exact ⟨0, rfl, Nat.zero_le _, HO⟩
  case round =>
   obtain ⟨q, rfl, hq, HQO⟩ := hrel
   clear HO
   have hfd := fld1
   have hq5 : q = 0 ∨ q = 1 ∨ q = 2 ∨ q = 3 ∨ q = 4 ∨ q = 5 := by omega
   rcases hq5 with rfl | rfl | rfl | rfl | rfl | rfl
   ·obtain ⟨s0, s1, s2, s3⟩ := HQO.out.bx
    go_wp2_with fail
    refine (HP3.out _ (HR.out.down HQO.out.bl)).mono ?_
    rintro _ z1 ⟨hy1, b1, e1, rfl, hg1⟩
    have HZ1 := Lib.hid (HQO.out.below hy1)
    have HG1 := Lib.hid hg1
    clear hy1 hg1 s0 s1 s2 s3
    go_wp2_with fail
    refine (HQ0.out b1 e1 _ HG1.out).mono ?_
    rintro _ z2 ⟨hy2, b2, e2, rfl, _⟩
    have HZ2 := Lib.hid (HZ1.out.below hy2)
    clear hy2 HG1
    obtain ⟨x0, x1, x2, x3, x4, x5, x6, x7⟩ := HZ2.out.bc.cells
    dsimp only [lowsTo] at x0 x1 x2 x3 x4 x5 x6 x7
    have f3 := HZ2.out.bc.free 3
    go_wp2_with fail
    go_roundw
    case rel => exact ⟨1, rfl, by omega, Lib.hid (HZ2.out.low 3 _ rfl rfl rfl)⟩
    case measure => simp [intOf]
   ·obtain ⟨s0, s1, s2, s3⟩ := HQO.out.bx
    go_wp2_with fail
    refine (HP3.out _ (HR.out.down HQO.out.bl)).mono ?_
    rintro _ z1 ⟨hy1, b1, e1, rfl, hg1⟩
    have HZ1 := Lib.hid (HQO.out.below hy1)
    have HG1 := Lib.hid hg1
    clear hy1 hg1 s0 s1 s2 s3
    go_wp2_with fail
    refine (HQ1.out b1 e1 _ HG1.out).mono ?_
    rintro _ z2 ⟨hy2, b2, e2, rfl, _⟩
    have HZ2 := Lib.hid (HZ1.out.below hy2)
    clear hy2 HG1
    obtain ⟨x0, x1, x2, x3, x4, x5, x6, x7⟩ := HZ2.out.bc.cells
    dsimp only [lowsTo] at x0 x1 x2 x3 x4 x5 x6 x7
    have f4 := HZ2.out.bc.free 4
    go_wp2_with fail
    go_roundw
    case rel => exact ⟨2, rfl, by omega, Lib.hid (HZ2.out.low 4 _ rfl rfl rfl)⟩
    case measure => simp [intOf]
   ·obtain ⟨s0, s1, s2, s3⟩ := HQO.out.bx
    go_wp2_with fail
    refine (HP3.out _ (HR.out.down HQO.out.bl)).mono ?_
    rintro _ z1 ⟨hy1, b1, e1, rfl, hg1⟩
    have HZ1 := Lib.hid (HQO.out.below hy1)
    have HG1 := Lib.hid hg1
    clear hy1 hg1 s0 s1 s2 s3
    go_wp2_with fail
    refine (HQ2.out b1 e1 _ HG1.out).mono ?_
    rintro _ z2 ⟨hy2, b2, e2, rfl, _⟩
    have HZ2 := Lib.hid (HZ1.out.below hy2)
    clear hy2 HG1
    obtain ⟨x0, x1, x2, x3, x4, x5, x6, x7⟩ := HZ2.out.bc.cells
    dsimp only [lowsTo] at x0 x1 x2 x3 x4 x5 x6 x7
    have f5 := HZ2.out.bc.free 5
    go_wp2_with fail
    go_roundw
    case rel => exact ⟨3, rfl, by omega, Lib.hid (HZ2.out.low 5 _ rfl rfl rfl)⟩
    case measure => simp [intOf]
   ·obtain ⟨s0, s1, s2, s3⟩ := HQO.out.bx
    go_wp2_with fail
    refine (HP3.out _ (HR.out.down HQO.out.bl)).mono ?_
    rintro _ z1 ⟨hy1, b1, e1, rfl, hg1⟩
    have HZ1 := Lib.hid (HQO.out.below hy1)
    have HG1 := Lib.hid hg1
    clear hy1 hg1 s0 s1 s2 s3
    go_wp2_with fail
    refine (HQ3.out b1 e1 _ HG1.out).mono ?_
    rintro _ z2 ⟨hy2, b2, e2, rfl, _⟩
    have HZ2 := Lib.hid (HZ1.out.below hy2)
    clear hy2 HG1
    obtain ⟨x0, x1, x2, x3, x4, x5, x6, x7⟩ := HZ2.out.bc.cells
    dsimp only [lowsTo] at x0 x1 x2 x3 x4 x5 x6 x7
    have f6 := HZ2.out.bc.free 6
    go_wp2_with fail
    go_roundw
    case rel => exact ⟨4, rfl, by omega, Lib.hid (HZ2.out.low 6 _ rfl rfl rfl)⟩
    case measure => simp [intOf]
   ·obtain ⟨s0, s1, s2, s3⟩ := HQO.out.bx
    go_wp2_with fail
    refine (HP3.out _ (HR.out.down HQO.out.bl)).mono ?_
    rintro _ z1 ⟨hy1, b1, e1, rfl, hg1⟩
    have HZ1 := Lib.hid (HQO.out.below hy1)
    have HG1 := Lib.hid hg1
    clear hy1 hg1 s0 s1 s2 s3
    go_wp2_with fail
    refine (HQ4.out b1 e1 _ HG1.out).mono ?_
    rintro _ z2 ⟨hy2, b2, e2, rfl, _⟩
    have HZ2 := Lib.hid (HZ1.out.below hy2)
    clear hy2 HG1
    obtain ⟨x0, x1, x2, x3, x4, x5, x6, x7⟩ := HZ2.out.bc.cells
    dsimp only [lowsTo] at x0 x1 x2 x3 x4 x5 x6 x7
    have f7 := HZ2.out.bc.free 7
    go_wp2_with fail
    go_roundw
    case rel => exact ⟨5, rfl, by omega, Lib.hid (HZ2.out.low 7 _ rfl rfl rfl)⟩
    case measure => simp [intOf]
   ·obtain ⟨x0, x1, x2, x3, x4, x5, x6, x7⟩ := HQO.out.bc.cells
    dsimp only [lowsTo] at x0 x1 x2 x3 x4 x5 x6 x7
    obtain ⟨r0, r1, r2, r3, r4, r5, r6, r7⟩ := HQO.out.rz.cells
    dsimp only [Bk.zero] at r0 r1 r2 r3 r4 r5 r6 r7
    have g0 := HQO.out.rz.free 0
    have g1 := HQO.out.rz.free 1
    have g2 := HQO.out.rz.free 2
    have g3 := HQO.out.rz.free 3
    have g4 := HQO.out.rz.free 4
    have g5 := HQO.out.rz.free 5
    have g6 := HQO.out.rz.free 6
    have g7 := HQO.out.rz.free 7
    go_wp2_with fail
    obtain ⟨hC, hA⟩ := HQO.out.fin
    obtain ⟨t0, t1, t2, t3, t4, t5, t6, t7⟩ := hC.cells
    unfold bstore at t0 t1 t2 t3 t4 t5 t6 t7
    dsimp only [lowsTo] at t0 t1 t2 t3 t4 t5 t6 t7
    unfold bstore at hA
    dsimp only [lowsTo] at hA
    generalize ((((((((wr.setCell ⟨w.heap.size + 1, 0, none⟩ (.int .i64 p0.n)).setCell ⟨w.heap.size + 1, 1, none⟩ (.slice a3 p1.l.len c3)).setCell ⟨w.heap.size + 1, 2, none⟩ (.slice a5 p2.l.len c5)).setCell ⟨w.heap.size + 1, 3, none⟩ (.int .i64 (p3.l.th 0).n)).setCell ⟨w.heap.size + 1, 4, none⟩ (.int .i64 (p3.l.th 1).n)).setCell ⟨w.heap.size + 1, 5, none⟩ (.int .i64 (p3.l.th 2).n)).setCell ⟨w.heap.size + 1, 6, none⟩ (.int .i64 (p3.l.th 3).n)).setCell ⟨w.heap.size + 1, 7, none⟩ (.int .i64 (p3.l.th 4).n)) = Y2 at *
    exact bodyPost_ret (v := .agg #[.int .i64 p0.n, .slice a3 p1.l.len c3, .slice a5 p2.l.len c5, .int .i64 (p3.l.th 0).n, .int .i64 (p3.l.th 1).n, .int .i64 (p3.l.th 2).n, .int .i64 (p3.l.th 3).n, .int .i64 (p3.l.th 4).n]) (by simp [results, Tryz.results54, go_sem, t0, t1, t2, t3, t4, t5, t6, t7]) rfl ⟨a3, c3, a5, c5, rfl, hA⟩
end Go.Proofs.YtlpgphiccjkenaaGreatDoor
