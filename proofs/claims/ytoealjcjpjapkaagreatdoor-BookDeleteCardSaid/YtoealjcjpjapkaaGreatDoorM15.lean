/-
 Contracts of the program, and what they rest on.
-/
import Derived.Test.YtoealjcjpjapkaaGreatDoorTk
import Derived.Test.YtoealjcjpjapkaaGreatDoorM12
import Derived.Test.YtoealjcjpjapkaaGreatDoorM11
import Derived.Test.YtoealjcjpjapkaaGreatDoorM07
import Derived.Test.YtoealjcjpjapkaaGreatDoorM04
set_option maxRecDepth 100000
set_option maxHeartbeats 16000000
namespace Go.Proofs.YtoealjcjpjapkaaGreatDoor
open Go.RowKit
def VC (w : World) (b : Nat) (k n : Int) (s : ByteArray) (ad : Option Addr) (len cap : Nat) : Prop :=
 (w.cell? ⟨b, 0, none⟩ = some (.int .i64 k) ∧ w.cell? ⟨b, 1, none⟩ = some (.int .i64 n) ∧ w.cell? ⟨b, 2, none⟩ = some (.string s) ∧ w.cell? ⟨b, 3, none⟩ = some (.slice ad len cap)) ∧
  w.frozen? ⟨b, 0, none⟩ = false ∧ w.frozen? ⟨b, 1, none⟩ = false ∧ w.frozen? ⟨b, 2, none⟩ = false ∧ w.frozen? ⟨b, 3, none⟩ = false
theorem VC.below {w w' : World} {b : Nat} {k n : Int} {s : ByteArray} {ad : Option Addr} {len cap : Nat} (h : VC w b k n s ad len cap) (hb : Below w.heap.size w w') : VC w' b k n s ad len cap := by
 have hl : b < w.heap.size := World.block_lt_of_cell? w _ h.1.1
 have e := hb.block b hl
 obtain ⟨⟨h0, h1, h2, h3⟩, f0, f1, f2, f3⟩ := h
 have f (o : Nat) : w'.frozen? ⟨b, o, none⟩ = w.frozen? ⟨b, o, none⟩ := World.frozen?_of_block (a := ⟨b, o, none⟩) e
 exact ⟨⟨by rw [hb.cell hl]; exact h0, by rw [hb.cell hl]; exact h1, by rw [hb.cell hl]; exact h2, by rw [hb.cell hl]; exact h3⟩, by rw [f]; exact f0, by rw [f]; exact f1, by rw [f]; exact f2, by rw [f]; exact f3⟩
theorem parts_new (y : World) (d : De) (t : TypeId) : RepG (y.alloc (.cells #[.int .i64 1, .int .i64 d.kind, .string ⟨#[]⟩, .slice none 0 0, .int .i64 2, .int .i64 0, .string d.key, .slice none 0 0, .int .i64 2, .int .i64 0, .string d.body, .slice none 0 0, .int .i64 1, .int .i64 d.ver, .string ⟨#[]⟩, .slice none 0 0, .int .i64 1, .int .i64 d.cond, .string ⟨#[]⟩, .slice none 0 0, .int .i64 2, .int .i64 0, .string d.tag, .slice none 0 0, .int .i64 1, .int .i64 d.req, .string ⟨#[]⟩, .slice none 0 0, .int .i64 1, .int .i64 d.low, .string ⟨#[]⟩, .slice none 0 0] t)) (fun b => b = y.heap.size) (some ⟨y.heap.size, 0, none⟩) d.parts := by
 have hn : (y.alloc (.cells #[.int .i64 1, .int .i64 d.kind, .string ⟨#[]⟩, .slice none 0 0, .int .i64 2, .int .i64 0, .string d.key, .slice none 0 0, .int .i64 2, .int .i64 0, .string d.body, .slice none 0 0, .int .i64 1, .int .i64 d.ver, .string ⟨#[]⟩, .slice none 0 0, .int .i64 1, .int .i64 d.cond, .string ⟨#[]⟩, .slice none 0 0, .int .i64 2, .int .i64 0, .string d.tag, .slice none 0 0, .int .i64 1, .int .i64 d.req, .string ⟨#[]⟩, .slice none 0 0, .int .i64 1, .int .i64 d.low, .string ⟨#[]⟩, .slice none 0 0] t)).heap[y.heap.size]? = some (.cells #[.int .i64 1, .int .i64 d.kind, .string ⟨#[]⟩, .slice none 0 0, .int .i64 2, .int .i64 0, .string d.key, .slice none 0 0, .int .i64 2, .int .i64 0, .string d.body, .slice none 0 0, .int .i64 1, .int .i64 d.ver, .string ⟨#[]⟩, .slice none 0 0, .int .i64 1, .int .i64 d.cond, .string ⟨#[]⟩, .slice none 0 0, .int .i64 2, .int .i64 0, .string d.tag, .slice none 0 0, .int .i64 1, .int .i64 d.req, .string ⟨#[]⟩, .slice none 0 0, .int .i64 1, .int .i64 d.low, .string ⟨#[]⟩, .slice none 0 0] t (0, 0)) := heap_alloc_new y _
 refine .inr ⟨_, 0, rfl, ?_⟩
 unfold De.parts
 refine ⟨⟨rfl, _, _, hn⟩, ?_, ?_, ?_, ⟨none, 0, ?_, .inl rfl⟩, ⟨rfl, _, _, hn⟩, ?_, ?_, ?_, ⟨none, 0, ?_, .inl rfl⟩, ⟨rfl, _, _, hn⟩, ?_, ?_, ?_, ⟨none, 0, ?_, .inl rfl⟩, ⟨rfl, _, _, hn⟩, ?_, ?_, ?_, ⟨none, 0, ?_, .inl rfl⟩, ⟨rfl, _, _, hn⟩, ?_, ?_, ?_, ⟨none, 0, ?_, .inl rfl⟩, ⟨rfl, _, _, hn⟩, ?_, ?_, ?_, ⟨none, 0, ?_, .inl rfl⟩, ⟨rfl, _, _, hn⟩, ?_, ?_, ?_, ⟨none, 0, ?_, .inl rfl⟩, ⟨rfl, _, _, hn⟩, ?_, ?_, ?_, ⟨none, 0, ?_, .inl rfl⟩, trivial⟩ <;> (unfold World.cell?; simp only [hn]; rfl)
theorem dval_p (d : De) (b : Bool) (hb : b = true ↔ mayD d) (hwf : d.wf) (w : World) (ht : TzAt w) (he : ErrAt w) :
  Calls Tryz.prog 23 #[dagg d] w fun e w' => Below w.heap.size w w' ∧ ((b = false ∧ e = .returned (.agg #[.int .i64 0, .int .i64 0, .string ⟨#[]⟩, .slice none 0 0])) ∨
   (b = true ∧ ∃ ad cap, e = .returned (.agg #[.int .i64 3, .int .i64 0, .string ⟨#[]⟩, .slice ad 8 cap]) ∧ RepG w' (fun b => w.heap.size ≤ b) ad d.parts)) := by
 obtain ⟨kind, key, body, ver, cond, tag, req, low⟩ := d
 have HM := Lib.hid (fun W hw1 hw2 => dmay_p ⟨kind, key, body, ver, cond, tag, req, low⟩ b hb hwf W hw1 hw2)
 have hb0 : Below w.heap.size w (w.alloc (.cells #[.int .i64 kind, .string key, .string body, .int .i64 ver, .int .i64 cond, .string tag, .int .i64 req, .int .i64 low] 23)) := (Below.refl _ _).alloc (Nat.le_refl _) _
 have HC := Lib.hid (DeC.new w ⟨kind, key, body, ver, cond, tag, req, low⟩ 23)
 have HB := Lib.hid hb0
 have HTE := Lib.hid (And.intro ht he)
 clear hb hwf ht he hb0
 unfold dagg at HM ⊢
 unfold De.parts
 dsimp only at HM HC ⊢
 obtain ⟨q0, q1, q2, q3, q4, q5, q6, q7⟩ := HC.out
 go_enter Tryz.func23, Tryz.ntmps23
 go_wp2_with fail
 refine (HM.out _ ?_ ?_).mono ?_
 ·exact HTE.out.1.below (HB.out.alloc (by simp) _)
 ·exact HTE.out.2.below (HB.out.alloc (by simp) _)
 rintro _ w1 ⟨rfl, hb1⟩
 have HC1 := Lib.hid ((HC.out.below ((Below.refl _ _).alloc (Nat.le_refl _) _)).below hb1)
 have hv : VC _ (w.heap.size + 1) 0 0 ⟨#[]⟩ none 0 0 := (show VC ((w.alloc (.cells #[.int .i64 kind, .string key, .string body, .int .i64 ver, .int .i64 cond, .string tag, .int .i64 req, .int .i64 low] 23)).alloc (.cells #[.int .i64 0, .int .i64 0, .string ⟨#[]⟩, .slice none 0 0] 35)) (w.heap.size + 1) 0 0 ⟨#[]⟩ none 0 0 by
  refine ⟨⟨?_, ?_, ?_, ?_⟩, ?_, ?_, ?_, ?_⟩ <;> go_simp)
 have HV1 := Lib.hid (hv.below hb1)
 have hs1 : w.heap.size + 2 ≤ w1.heap.size := by
  have hs := hb1.size
  simp at hs
  omega
 have HB1 := Lib.hid ((HB.out.alloc (by simp) _).trans (hb1.mono (by simp; omega)))
 clear hb1 q0 q1 q2 q3 q4 q5 q6 q7 hv
 cases b with
 | false =>
  obtain ⟨⟨v0, v1, v2, v3⟩, f0, f1, f2, f3⟩ := HV1.out
  go_wp2_with fail
  have hC : VC ((((w1.setCell ⟨w.heap.size + 1, 0, none⟩ (.int .i64 0)).setCell ⟨w.heap.size + 1, 1, none⟩ (.int .i64 0)).setCell ⟨w.heap.size + 1, 2, none⟩ (.string ⟨#[]⟩)).setCell ⟨w.heap.size + 1, 3, none⟩ (.slice none 0 0)) (w.heap.size + 1) 0 0 ⟨#[]⟩ none 0 0 := by
   refine ⟨⟨?_, ?_, ?_, ?_⟩, ?_, ?_, ?_, ?_⟩ <;> go_simp
  have hB4 : Below w.heap.size w ((((w1.setCell ⟨w.heap.size + 1, 0, none⟩ (.int .i64 0)).setCell ⟨w.heap.size + 1, 1, none⟩ (.int .i64 0)).setCell ⟨w.heap.size + 1, 2, none⟩ (.string ⟨#[]⟩)).setCell ⟨w.heap.size + 1, 3, none⟩ (.slice none 0 0)) :=
   (((HB1.out.setCell (by simp) _).setCell (by simp) _).setCell (by simp) _).setCell (by simp) _
  generalize (((w1.setCell ⟨w.heap.size + 1, 0, none⟩ (.int .i64 0)).setCell ⟨w.heap.size + 1, 1, none⟩ (.int .i64 0)).setCell ⟨w.heap.size + 1, 2, none⟩ (.string ⟨#[]⟩)).setCell ⟨w.heap.size + 1, 3, none⟩ (.slice none 0 0) = W4 at *
  obtain ⟨⟨t0, t1, t2, t3⟩, _⟩ := hC
  exact bodyPost_ret (v := .agg #[.int .i64 0, .int .i64 0, .string ⟨#[]⟩, .slice none 0 0]) (by simp [results, Tryz.results23, go_sem, t0, t1, t2, t3]) rfl ⟨hB4, by first | exact rfl | exact .inl rfl | exact .inl ⟨rfl, rfl⟩⟩
 | true =>
  have HS : Hid (∀ W, Below w1.heap.size w1 W → DeC W w.heap.size ⟨kind, key, body, ver, cond, tag, req, low⟩) := Lib.hid (fun W hW => HC1.out.below hW)
  go_wp2_with fail
  have hS0 := HS.out _ (Below.refl w1.heap.size w1).drew
  refine wp_region_last (S := fun W => DeC W w.heap.size ⟨kind, key, body, ver, cond, tag, req, low⟩) (by kernel_rfl) (ops := List.toArray [_, _, _, _, _, _, _, _, _, _, _, _, _, _, _, _, _, _, _, _, _, _, _, _, _, _]) (o := _) rfl (by kernel_rfl) ?_
  refine tk 0 (.pointer (some ⟨w.heap.size, 0, none⟩)) rfl ?_ hS0 ?_
  ·intro w' ⟨s0, s1, s2, s3, s4, s5, s6, s7⟩; dsimp only at s0 s1 s2 s3 s4 s5 s6 s7; go_simp
  refine tk 1 (.int .i64 kind) rfl ?_ hS0 ?_
  ·intro w' ⟨s0, s1, s2, s3, s4, s5, s6, s7⟩; dsimp only at s0 s1 s2 s3 s4 s5 s6 s7; go_simp
  refine tk 3 (.pointer (some ⟨w.heap.size, 1, none⟩)) rfl ?_ hS0 ?_
  ·intro w' ⟨s0, s1, s2, s3, s4, s5, s6, s7⟩; dsimp only at s0 s1 s2 s3 s4 s5 s6 s7; go_simp
  refine tk 4 (.string key) rfl ?_ hS0 ?_
  ·intro w' ⟨s0, s1, s2, s3, s4, s5, s6, s7⟩; dsimp only at s0 s1 s2 s3 s4 s5 s6 s7; go_simp
  refine tk 6 (.pointer (some ⟨w.heap.size, 2, none⟩)) rfl ?_ hS0 ?_
  ·intro w' ⟨s0, s1, s2, s3, s4, s5, s6, s7⟩; dsimp only at s0 s1 s2 s3 s4 s5 s6 s7; go_simp
  refine tk 7 (.string body) rfl ?_ hS0 ?_
  ·intro w' ⟨s0, s1, s2, s3, s4, s5, s6, s7⟩; dsimp only at s0 s1 s2 s3 s4 s5 s6 s7; go_simp
  refine tk 9 (.pointer (some ⟨w.heap.size, 3, none⟩)) rfl ?_ hS0 ?_
  ·intro w' ⟨s0, s1, s2, s3, s4, s5, s6, s7⟩; dsimp only at s0 s1 s2 s3 s4 s5 s6 s7; go_simp
  refine tk 10 (.int .i64 ver) rfl ?_ hS0 ?_
  ·intro w' ⟨s0, s1, s2, s3, s4, s5, s6, s7⟩; dsimp only at s0 s1 s2 s3 s4 s5 s6 s7; go_simp
  refine tk 12 (.pointer (some ⟨w.heap.size, 4, none⟩)) rfl ?_ hS0 ?_
  ·intro w' ⟨s0, s1, s2, s3, s4, s5, s6, s7⟩; dsimp only at s0 s1 s2 s3 s4 s5 s6 s7; go_simp
  refine tk 13 (.int .i64 cond) rfl ?_ hS0 ?_
  ·intro w' ⟨s0, s1, s2, s3, s4, s5, s6, s7⟩; dsimp only at s0 s1 s2 s3 s4 s5 s6 s7; go_simp
  refine tk 15 (.pointer (some ⟨w.heap.size, 5, none⟩)) rfl ?_ hS0 ?_
  ·intro w' ⟨s0, s1, s2, s3, s4, s5, s6, s7⟩; dsimp only at s0 s1 s2 s3 s4 s5 s6 s7; go_simp
  refine tk 16 (.string tag) rfl ?_ hS0 ?_
  ·intro w' ⟨s0, s1, s2, s3, s4, s5, s6, s7⟩; dsimp only at s0 s1 s2 s3 s4 s5 s6 s7; go_simp
  refine tk 18 (.pointer (some ⟨w.heap.size, 6, none⟩)) rfl ?_ hS0 ?_
  ·intro w' ⟨s0, s1, s2, s3, s4, s5, s6, s7⟩; dsimp only at s0 s1 s2 s3 s4 s5 s6 s7; go_simp
  refine tk 19 (.int .i64 req) rfl ?_ hS0 ?_
  ·intro w' ⟨s0, s1, s2, s3, s4, s5, s6, s7⟩; dsimp only at s0 s1 s2 s3 s4 s5 s6 s7; go_simp
  refine tk 21 (.pointer (some ⟨w.heap.size, 7, none⟩)) rfl ?_ hS0 ?_
  ·intro w' ⟨s0, s1, s2, s3, s4, s5, s6, s7⟩; dsimp only at s0 s1 s2 s3 s4 s5 s6 s7; go_simp
  refine tk 22 (.int .i64 low) rfl ?_ hS0 ?_
  ·intro w' ⟨s0, s1, s2, s3, s4, s5, s6, s7⟩; dsimp only at s0 s1 s2 s3 s4 s5 s6 s7; go_simp
  simp only [List.getElem_toArray, List.getElem_cons_succ, List.getElem_cons_zero, Act.put, List.setIfInBounds_toArray, List.set_cons_zero, List.set_cons_succ]
  have HX0 := Lib.hid (Below.refl w1.heap.size w1).drew
  clear hS0
  refine wpAnyH_ready (rs := [2]) (by kernel_rfl) (by simp) ?_
  refine AllReadyH.cons rfl (fun K hK => ?_) AllReadyH.nil
  simp only [List.getElem_toArray, List.getElem_cons_succ, List.getElem_cons_zero]
  go_simp
  refine (dnum_p kind _).mono ?_
  rintro _ y1 ⟨rfl, hy⟩
  have HX1 := Lib.hid (HX0.out.trans (hy.mono HX0.out.size))
  clear hy
  refine hK.out _ _ (HS.out _ HX1.out) (fun _ => ?_)
  clear hK
  refine wpAnyH_ready (rs := [5]) (by kernel_rfl) (by simp) ?_
  refine AllReadyH.cons rfl (fun K hK => ?_) AllReadyH.nil
  simp only [List.getElem_toArray, List.getElem_cons_succ, List.getElem_cons_zero]
  go_simp
  refine (dstr_p key _).mono ?_
  rintro _ y2 ⟨rfl, hy⟩
  have HX2 := Lib.hid (HX1.out.trans (hy.mono HX1.out.size))
  clear hy
  refine hK.out _ _ (HS.out _ HX2.out) (fun _ => ?_)
  clear hK
  refine wpAnyH_ready (rs := [8]) (by kernel_rfl) (by simp) ?_
  refine AllReadyH.cons rfl (fun K hK => ?_) AllReadyH.nil
  simp only [List.getElem_toArray, List.getElem_cons_succ, List.getElem_cons_zero]
  go_simp
  refine (dstr_p body _).mono ?_
  rintro _ y3 ⟨rfl, hy⟩
  have HX3 := Lib.hid (HX2.out.trans (hy.mono HX2.out.size))
  clear hy
  refine hK.out _ _ (HS.out _ HX3.out) (fun _ => ?_)
  clear hK
  refine wpAnyH_ready (rs := [11]) (by kernel_rfl) (by simp) ?_
  refine AllReadyH.cons rfl (fun K hK => ?_) AllReadyH.nil
  simp only [List.getElem_toArray, List.getElem_cons_succ, List.getElem_cons_zero]
  go_simp
  refine (dnum_p ver _).mono ?_
  rintro _ y4 ⟨rfl, hy⟩
  have HX4 := Lib.hid (HX3.out.trans (hy.mono HX3.out.size))
  clear hy
  refine hK.out _ _ (HS.out _ HX4.out) (fun _ => ?_)
  clear hK
  refine wpAnyH_ready (rs := [14]) (by kernel_rfl) (by simp) ?_
  refine AllReadyH.cons rfl (fun K hK => ?_) AllReadyH.nil
  simp only [List.getElem_toArray, List.getElem_cons_succ, List.getElem_cons_zero]
  go_simp
  refine (dnum_p cond _).mono ?_
  rintro _ y5 ⟨rfl, hy⟩
  have HX5 := Lib.hid (HX4.out.trans (hy.mono HX4.out.size))
  clear hy
  refine hK.out _ _ (HS.out _ HX5.out) (fun _ => ?_)
  clear hK
  refine wpAnyH_ready (rs := [17]) (by kernel_rfl) (by simp) ?_
  refine AllReadyH.cons rfl (fun K hK => ?_) AllReadyH.nil
  simp only [List.getElem_toArray, List.getElem_cons_succ, List.getElem_cons_zero]
  go_simp
  refine (dstr_p tag _).mono ?_
  rintro _ y6 ⟨rfl, hy⟩
  have HX6 := Lib.hid (HX5.out.trans (hy.mono HX5.out.size))
  clear hy
  refine hK.out _ _ (HS.out _ HX6.out) (fun _ => ?_)
  clear hK
  refine wpAnyH_ready (rs := [20]) (by kernel_rfl) (by simp) ?_
  refine AllReadyH.cons rfl (fun K hK => ?_) AllReadyH.nil
  simp only [List.getElem_toArray, List.getElem_cons_succ, List.getElem_cons_zero]
  go_simp
  refine (dnum_p req _).mono ?_
  rintro _ y7 ⟨rfl, hy⟩
  have HX7 := Lib.hid (HX6.out.trans (hy.mono HX6.out.size))
  clear hy
  refine hK.out _ _ (HS.out _ HX7.out) (fun _ => ?_)
  clear hK
  refine wpAnyH_ready (rs := [23]) (by kernel_rfl) (by simp) ?_
  refine AllReadyH.cons rfl (fun K hK => ?_) AllReadyH.nil
  simp only [List.getElem_toArray, List.getElem_cons_succ, List.getElem_cons_zero]
  go_simp
  refine (dnum_p low _).mono ?_
  rintro _ y8 ⟨rfl, hy⟩
  have HX8 := Lib.hid (HX7.out.trans (hy.mono HX7.out.size))
  clear hy
  refine hK.out _ _ (HS.out _ HX8.out) (fun _ => ?_)
  clear hK
  refine wpAnyH_ready (rs := [24]) (by kernel_rfl) (by simp) ?_
  refine AllReadyH.cons rfl (fun K hK => ?_) AllReadyH.nil
  simp only [List.getElem_toArray, List.getElem_cons_succ, List.getElem_cons_zero]
  go_simp
  have hg := parts_new y8 ⟨kind, key, body, ver, cond, tag, req, low⟩ 35
  unfold De.parts at hg
  dsimp only at hg
  have hx9 := HX8.out.alloc HX8.out.size (.cells #[.int .i64 1, .int .i64 kind, .string ⟨#[]⟩, .slice none 0 0, .int .i64 2, .int .i64 0, .string key, .slice none 0 0, .int .i64 2, .int .i64 0, .string body, .slice none 0 0, .int .i64 1, .int .i64 ver, .string ⟨#[]⟩, .slice none 0 0, .int .i64 1, .int .i64 cond, .string ⟨#[]⟩, .slice none 0 0, .int .i64 2, .int .i64 0, .string tag, .slice none 0 0, .int .i64 1, .int .i64 req, .string ⟨#[]⟩, .slice none 0 0, .int .i64 1, .int .i64 low, .string ⟨#[]⟩, .slice none 0 0] 35)
  refine hK.out _ _ (HS.out _ hx9) (fun _ => ?_)
  clear hK
  have hy8 := HX8.out.size
  generalize y8.alloc _ = y9 at *
  have HG9 := Lib.hid hg
  have HX9 := Lib.hid hx9
  clear hg hx9
  refine wpAnyH_ready (rs := [25]) (by kernel_rfl) (by simp) ?_
  refine AllReadyH.cons rfl (fun K hK => ?_) AllReadyH.nil
  simp only [List.getElem_toArray, List.getElem_cons_succ, List.getElem_cons_zero]
  go_simp
  refine hK.out _ _ (HS.out _ HX9.out) (fun _ => ?_)
  clear hK
  refine wpAnyH_done (by kernel_rfl) ?_ _
  obtain ⟨⟨v0, v1, v2, v3⟩, f0, f1, f2, f3⟩ := HV1.out.below HX9.out
  rw [Exit.then]
  rw [if_pos (by rfl)]
  go_simp
  go_wp2_with fail
  have hC : VC ((((y9.setCell ⟨w.heap.size + 1, 0, none⟩ (.int .i64 3)).setCell ⟨w.heap.size + 1, 1, none⟩ (.int .i64 0)).setCell ⟨w.heap.size + 1, 2, none⟩ (.string ⟨#[]⟩)).setCell ⟨w.heap.size + 1, 3, none⟩ (.slice (some ⟨y8.heap.size, 0, none⟩) 8 8)) (w.heap.size + 1) 3 0 ⟨#[]⟩ (some ⟨y8.heap.size, 0, none⟩) 8 8 := by
   refine ⟨⟨?_, ?_, ?_, ?_⟩, ?_, ?_, ?_, ?_⟩ <;> go_simp
  have hBw := HB1.out.trans (HX9.out.mono HB1.out.size)
  have hB4 : Below w.heap.size w ((((y9.setCell ⟨w.heap.size + 1, 0, none⟩ (.int .i64 3)).setCell ⟨w.heap.size + 1, 1, none⟩ (.int .i64 0)).setCell ⟨w.heap.size + 1, 2, none⟩ (.string ⟨#[]⟩)).setCell ⟨w.heap.size + 1, 3, none⟩ (.slice (some ⟨y8.heap.size, 0, none⟩) 8 8)) :=
   (((hBw.setCell (by simp) _).setCell (by simp) _).setCell (by simp) _).setCell (by simp) _
  have hG4 := HG9.out.to (w' := (((y9.setCell ⟨w.heap.size + 1, 0, none⟩ (.int .i64 3)).setCell ⟨w.heap.size + 1, 1, none⟩ (.int .i64 0)).setCell ⟨w.heap.size + 1, 2, none⟩ (.string ⟨#[]⟩)).setCell ⟨w.heap.size + 1, 3, none⟩ (.slice (some ⟨y8.heap.size, 0, none⟩) 8 8)) (A' := fun b => w.heap.size ≤ b) (fun b hb _ => ⟨by omega, by
   rw [heap_setCell_other _ _ _ _ (by simp; omega), heap_setCell_other _ _ _ _ (by simp; omega), heap_setCell_other _ _ _ _ (by simp; omega), heap_setCell_other _ _ _ _ (by simp; omega)]⟩)
  generalize (((y9.setCell ⟨w.heap.size + 1, 0, none⟩ (.int .i64 3)).setCell ⟨w.heap.size + 1, 1, none⟩ (.int .i64 0)).setCell ⟨w.heap.size + 1, 2, none⟩ (.string ⟨#[]⟩)).setCell ⟨w.heap.size + 1, 3, none⟩ (.slice (some ⟨y8.heap.size, 0, none⟩) 8 8) = W4 at *
  obtain ⟨⟨t0, t1, t2, t3⟩, _⟩ := hC
  exact bodyPost_ret (v := .agg #[.int .i64 3, .int .i64 0, .string ⟨#[]⟩, .slice (some ⟨y8.heap.size, 0, none⟩) 8 8]) (by simp [results, Tryz.results23, go_sem, t0, t1, t2, t3]) rfl ⟨hB4, _, ⟨_, rfl⟩, hG4⟩
end Go.Proofs.YtoealjcjpjapkaaGreatDoor
