/-
 Contracts of the program, and what they rest on.
-/
import Derived.Test.YtlpgphiccjkenaaGreatDoorTk
import Derived.Test.YtlpgphiccjkenaaGreatDoorM21
import Derived.Deep.AppendLies
import Derived.Test.YtlpgphiccjkenaaGreatDoorM17
import Derived.Test.YtlpgphiccjkenaaGreatDoorM08
set_option maxRecDepth 100000
set_option maxHeartbeats 16000000
namespace Go.Proofs.YtlpgphiccjkenaaGreatDoor
open Go.RowKit
def F.th : F → Nat → V4
 | .nil, _ => ⟨0, 0, ⟨#[]⟩, .nil⟩
 | .cons k n s l _, 0 => ⟨k, n, s, l⟩
 | .cons _ _ _ _ r, j + 1 => r.th j
theorem F.th_out : ∀ (l : F) (j : Nat), l.len ≤ j → l.th j = ⟨0, 0, ⟨#[]⟩, .nil⟩
 | .nil, _, _ => rfl
 | .cons _ _ _ _ r, 0, h => by simp [F.len] at h
 | .cons _ _ _ _ r, j + 1, h => F.th_out r j (by simpa [F.len] using h)
theorem RepA.th {w : World} {A : Nat → Prop} {b : Nat} : ∀ (f : F) (off j : Nat), RepA w A b off f → j < f.len →
  w.cell? ⟨b, off + j * 4, none⟩ = some (.int .i64 (f.th j).k) ∧ w.cell? ⟨b, off + j * 4 + 1, none⟩ = some (.int .i64 (f.th j).n) ∧ w.cell? ⟨b, off + j * 4 + 2, none⟩ = some (.string (f.th j).s) ∧ ∃ ad cap, w.cell? ⟨b, off + j * 4 + 3, none⟩ = some (.slice ad (f.th j).l.len cap) ∧ RepG w A ad (f.th j).l
 | .nil, _, _, _, h => absurd h (Nat.not_lt_zero _)
 | .cons k n s l r, off, 0, h, _ => by
  obtain ⟨_, h0, h1, h2, ⟨ad, cap, h3, h4⟩, _⟩ := h
  rw [Nat.zero_mul, Nat.add_zero]
  exact ⟨h0, h1, h2, ad, cap, h3, h4⟩
 | .cons k n s l r, off, j + 1, h, hj => by
  obtain ⟨_, _, _, _, _, h5⟩ := h
  have := RepA.th r (off + 4) j h5 (by simpa [F.len] using hj)
  rw [show off + (j + 1) * 4 = off + 4 + j * 4 by omega]
  exact this
theorem RepG.th {w : World} {A : Nat → Prop} {ad : Option Addr} {l : F} (h : RepG w A ad l) {j : Nat} (hj : j < l.len) :
  ∃ b o a c, ad = some ⟨b, o, none⟩ ∧ b < w.heap.size ∧ w.cell? ⟨b, o + j * 4, none⟩ = some (.int .i64 (l.th j).k) ∧ w.cell? ⟨b, o + j * 4 + 1, none⟩ = some (.int .i64 (l.th j).n) ∧ w.cell? ⟨b, o + j * 4 + 2, none⟩ = some (.string (l.th j).s) ∧ w.cell? ⟨b, o + j * 4 + 3, none⟩ = some (.slice a (l.th j).l.len c) ∧ RepG w A a (l.th j).l := by
 rcases h with rfl | ⟨b, o, rfl, h⟩
 ·exact absurd hj (Nat.not_lt_zero _)
 ·obtain ⟨h0, h1, h2, a, c, h3, h4⟩ := RepA.th l o j h hj
  exact ⟨b, o, a, c, rfl, World.block_lt_of_cell? w _ h0, h0, h1, h2, h3, h4⟩
theorem RepG.down {w w' : World} {ad : Option Addr} {l : F} (h : RepG w (fun _ => True) ad l) (hb : Below w.heap.size w w') : RepG w' (fun _ => True) ad l := h.to (fun b _ hl => ⟨trivial, hb.block b hl⟩)
def PAns (x : V4) (w : World) (e : Ending) (w' : World) : Prop := Below w.heap.size w w' ∧ ∃ ad cap, e = .returned (.agg #[.int .i64 x.k, .int .i64 x.n, .string x.s, .slice ad x.l.len cap]) ∧ RepG w' (fun _ => True) ad x.l
theorem part_p (k n : Int) (s : ByteArray) (l : F) (ad : Option Addr) (cap j : Nat) (w : World) (h : RepG w (fun _ => True) ad l) :
  Calls Tryz.prog 98 #[.agg #[.int .i64 k, .int .i64 n, .string s, .slice ad l.len cap], .int .i64 j] w (PAns (l.th j) w) := by
 rcases Nat.lt_or_ge j l.len with hlt | hge
 ·obtain ⟨b, o, a, c, rfl, hbw, c0, c1, c2, c3, hg⟩ := h.th hlt
  have HG := Lib.hid hg
  have h1 : ¬ l.len ≤ j := by omega
  have h2 : (j : Int) < (l.len : Int) := by omega
  unfold PAns
  generalize l.th j = x at *
  generalize l.len = N at *
  clear h hg hlt
  go_enter Tryz.func98, Tryz.ntmps98
  go_wp2_with fail
  refine bodyPost_ret (v := .agg #[.int .i64 x.k, .int .i64 x.n, .string x.s, .slice a x.l.len c]) (by simp [results, Tryz.results98, go_sem]) rfl ⟨((Below.refl _ _).alloc (Nat.le_refl _) _).alloc (by simp) _, a, c, rfl, ?_⟩
  exact HG.out.down (((Below.refl _ _).alloc (Nat.le_refl _) _).alloc (by simp) _)
 ·have hx := F.th_out l j hge
  rw [hx]
  unfold PAns
  have h1 : (l.len : Int) ≤ (j : Int) := by omega
  generalize l.len = N at *
  clear h hx
  go_enter Tryz.func98, Tryz.ntmps98
  go_wp2_with fail
  refine bodyPost_ret (v := .agg #[.int .i64 0, .int .i64 0, .string ⟨#[]⟩, .slice none 0 0]) (by simp [results, Tryz.results98, go_sem]) rfl ⟨((Below.refl _ _).alloc (Nat.le_refl _) _).alloc (by simp) _, none, 0, rfl, .inl rfl⟩
def F.list : F → List V4
 | .nil => []
 | .cons k n s l r => ⟨k, n, s, l⟩ :: F.list r
theorem F.list_len : ∀ f : F, (F.list f).length = f.len
 | .nil => rfl
 | .cons _ _ _ _ r => by simp only [F.list, F.len, List.length_cons, F.list_len r]
theorem F.list_ofL : ∀ l : List V4, F.list (F.ofL l) = l
 | [] => rfl
 | x :: r => by simp only [F.ofL, F.list, F.list_ofL r]
theorem F.list_th : ∀ (f : F) (j : Nat), j < f.len → (F.list f)[j]? = some (f.th j)
 | .nil, _, h => absurd h (Nat.not_lt_zero _)
 | .cons _ _ _ _ _, 0, _ => rfl
 | .cons _ _ _ _ r, j + 1, h => by
  rw [F.list, List.getElem?_cons_succ]
  exact F.list_th r j (by simpa [F.len] using h)
theorem fld1 (k n : Int) (s : ByteArray) (a : Option Addr) (l c : Nat) (w : World) : (Instr.field 88 (.agg #[.int .i64 k, .int .i64 n, .string s, .slice a l c]) 1).run Tryz.prog w = .ok (.int .i64 n) w := by kernel_rfl
theorem fld2 (k n : Int) (s : ByteArray) (a : Option Addr) (l c : Nat) (w : World) : (Instr.field 88 (.agg #[.int .i64 k, .int .i64 n, .string s, .slice a l c]) 2).run Tryz.prog w = .ok (.string s) w := by kernel_rfl
def verOf4 (x : V4) : Ve := ⟨(x.l.th 0).n, (x.l.th 1).n == 1, (x.l.th 2).s⟩
def memOf4 (x : V4) : Me := ⟨(x.l.th 0).n, ⟨(x.l.th 1).n, (x.l.th 2).n⟩⟩
def entOf4 (x : V4) : En := ⟨(x.l.th 0).s, (F.list (x.l.th 1).l).map verOf4⟩
theorem verof_p (x : V4) (ad : Option Addr) (cap : Nat) (w : World) (h : RepG w (fun _ => True) ad x.l) :
  Calls Tryz.prog 144 #[.agg #[.int .i64 x.k, .int .i64 x.n, .string x.s, .slice ad x.l.len cap]] w fun e w' => e = .returned (veagg (verOf4 x)) ∧ Below w.heap.size w w' := by
 obtain ⟨k, n, s, l⟩ := x
 dsimp only at h ⊢
 unfold verOf4 veagg
 dsimp only
 have HP0 : Hid (∀ W, RepG W (fun _ => True) ad l → Calls Tryz.prog 98 #[.agg #[.int .i64 k, .int .i64 n, .string s, .slice ad l.len cap], .int .i64 0] W (PAns (l.th 0) W)) := Lib.hid (fun W hW => part_p k n s l ad cap 0 W hW)
 have HP1 : Hid (∀ W, RepG W (fun _ => True) ad l → Calls Tryz.prog 98 #[.agg #[.int .i64 k, .int .i64 n, .string s, .slice ad l.len cap], .int .i64 1] W (PAns (l.th 1) W)) := Lib.hid (fun W hW => part_p k n s l ad cap 1 W hW)
 have HP2 : Hid (∀ W, RepG W (fun _ => True) ad l → Calls Tryz.prog 98 #[.agg #[.int .i64 k, .int .i64 n, .string s, .slice ad l.len cap], .int .i64 2] W (PAns (l.th 2) W)) := Lib.hid (fun W hW => part_p k n s l ad cap 2 W hW)
 have HR := Lib.hid h
 generalize l.th 0 = p0 at *
 generalize l.th 1 = p1 at *
 generalize l.th 2 = p2 at *
 generalize l.len = N at *
 have HB : Hid (Below w.heap.size w ((w.alloc (.cells #[.int .i64 k, .int .i64 n, .string s, .slice ad N cap] 88)).alloc (.cells #[.int .i64 0, .bool false, .string ⟨#[]⟩] 55))) := Lib.hid (((Below.refl _ _).alloc (Nat.le_refl _) _).alloc (by simp) _)
 have HS0 : Hid (∀ W, W = ((w.alloc (.cells #[.int .i64 k, .int .i64 n, .string s, .slice ad N cap] 88)).alloc (.cells #[.int .i64 0, .bool false, .string ⟨#[]⟩] 55)) → (W.cell? ⟨w.heap.size, 0, none⟩ = some (.int .i64 k) ∧ W.cell? ⟨w.heap.size, 1, none⟩ = some (.int .i64 n) ∧ W.cell? ⟨w.heap.size, 2, none⟩ = some (.string s) ∧ W.cell? ⟨w.heap.size, 3, none⟩ = some (.slice ad N cap)) ∧ W.heap[w.heap.size + 1]? = some (.cells #[.int .i64 0, .bool false, .string ⟨#[]⟩] 55 (0, 0)) ∧ w.heap.size + 2 ≤ W.heap.size) := Lib.hid (by
  rintro _ rfl
  refine ⟨⟨?_, ?_, ?_, ?_⟩, ?_, by simp⟩
  ·go_simp
  ·go_simp
  ·go_simp
  ·go_simp
  ·have := heap_alloc_new (w.alloc (.cells #[.int .i64 k, .int .i64 n, .string s, .slice ad N cap] 88)) (.cells #[.int .i64 0, .bool false, .string ⟨#[]⟩] 55)
   simpa using this)
 clear h
 go_enter Tryz.func144, Tryz.ntmps144
 go_wp2_with fail
 generalize ((w.alloc (.cells #[.int .i64 k, .int .i64 n, .string s, .slice ad N cap] 88)).alloc (.cells #[.int .i64 0, .bool false, .string ⟨#[]⟩] 55)) = W at *
 obtain ⟨hc, hv, hsz⟩ := HS0.out W rfl
 have HS : Hid (∀ W', Below W.heap.size W W' → W'.cell? ⟨w.heap.size, 0, none⟩ = some (.int .i64 k) ∧ W'.cell? ⟨w.heap.size, 1, none⟩ = some (.int .i64 n) ∧ W'.cell? ⟨w.heap.size, 2, none⟩ = some (.string s) ∧ W'.cell? ⟨w.heap.size, 3, none⟩ = some (.slice ad N cap)) := Lib.hid (fun W' hW => by
  obtain ⟨s0, s1, s2, s3⟩ := hc
  exact ⟨cell_kept hW (Nat.le_refl _) s0, cell_kept hW (Nat.le_refl _) s1, cell_kept hW (Nat.le_refl _) s2, cell_kept hW (Nat.le_refl _) s3⟩)
 have HV := Lib.hid hv
 clear hc hv HS0
 have hS0 := HS.out _ (Below.refl W.heap.size W).drew
 refine wp_region_last (S := fun W' => W'.cell? ⟨w.heap.size, 0, none⟩ = some (.int .i64 k) ∧ W'.cell? ⟨w.heap.size, 1, none⟩ = some (.int .i64 n) ∧ W'.cell? ⟨w.heap.size, 2, none⟩ = some (.string s) ∧ W'.cell? ⟨w.heap.size, 3, none⟩ = some (.slice ad N cap)) (by kernel_rfl) (ops := List.toArray [_, _, _, _, _, _, _, _, _, _, _]) (o := _) rfl (by kernel_rfl) ?_
 refine tk 0 (.agg #[.int .i64 k, .int .i64 n, .string s, .slice ad N cap]) rfl ?_ hS0 ?_
 ·intro w' ⟨s0, s1, s2, s3⟩; go_simp
 refine tk 3 (.agg #[.int .i64 k, .int .i64 n, .string s, .slice ad N cap]) rfl ?_ hS0 ?_
 ·intro w' ⟨s0, s1, s2, s3⟩; go_simp
 refine tk 7 (.agg #[.int .i64 k, .int .i64 n, .string s, .slice ad N cap]) rfl ?_ hS0 ?_
 ·intro w' ⟨s0, s1, s2, s3⟩; go_simp
 simp only [List.getElem_toArray, List.getElem_cons_succ, List.getElem_cons_zero, Act.put, List.setIfInBounds_toArray, List.set_cons_zero, List.set_cons_succ]
 have HX0 := Lib.hid (Below.refl W.heap.size W).drew
 clear hS0
 refine wpAnyH_ready (rs := [1]) (by kernel_rfl) (by simp) ?_
 refine AllReadyH.cons rfl (fun K hK => ?_) AllReadyH.nil
 simp only [List.getElem_toArray, List.getElem_cons_succ, List.getElem_cons_zero]
 go_simp
 refine (HP0.out _ (HR.out.down (HB.out.trans (HX0.out.mono HB.out.size)))).mono ?_
 rintro _ y1 ⟨hy, a1, c1, rfl, hg1⟩
 have HX1 := Lib.hid (HX0.out.trans (hy.mono HX0.out.size))
 clear hy hg1
 refine hK.out _ _ (HS.out _ HX1.out) (fun _ => ?_)
 clear hK
 have hS1 := HS.out _ HX1.out
 refine tk 2 (.int .i64 p0.n) rfl ?_ hS1 ?_
 ·intro w' ⟨s0, s1, s2, s3⟩; go_simp; rw [fld1]; rfl
 simp only [List.getElem_toArray, List.getElem_cons_succ, List.getElem_cons_zero, Act.put, List.setIfInBounds_toArray, List.set_cons_zero, List.set_cons_succ]
 clear hS1
 refine wpAnyH_ready (rs := [4]) (by kernel_rfl) (by simp) ?_
 refine AllReadyH.cons rfl (fun K hK => ?_) AllReadyH.nil
 simp only [List.getElem_toArray, List.getElem_cons_succ, List.getElem_cons_zero]
 go_simp
 refine (HP1.out _ (HR.out.down (HB.out.trans (HX1.out.mono HB.out.size)))).mono ?_
 rintro _ y2 ⟨hy, a2, c2, rfl, hg2⟩
 have HX2 := Lib.hid (HX1.out.trans (hy.mono HX1.out.size))
 clear hy hg2
 refine hK.out _ _ (HS.out _ HX2.out) (fun _ => ?_)
 clear hK
 have hS2 := HS.out _ HX2.out
 refine tk 5 (.int .i64 p1.n) rfl ?_ hS2 ?_
 ·intro w' ⟨s0, s1, s2, s3⟩; go_simp; rw [fld1]; rfl
 simp only [List.getElem_toArray, List.getElem_cons_succ, List.getElem_cons_zero, Act.put, List.setIfInBounds_toArray, List.set_cons_zero, List.set_cons_succ]
 refine tk 6 (.bool (p1.n == 1)) rfl ?_ hS2 ?_
 ·intro w' ⟨s0, s1, s2, s3⟩; go_simp
 simp only [List.getElem_toArray, List.getElem_cons_succ, List.getElem_cons_zero, Act.put, List.setIfInBounds_toArray, List.set_cons_zero, List.set_cons_succ]
 clear hS2
 refine wpAnyH_ready (rs := [8]) (by kernel_rfl) (by simp) ?_
 refine AllReadyH.cons rfl (fun K hK => ?_) AllReadyH.nil
 simp only [List.getElem_toArray, List.getElem_cons_succ, List.getElem_cons_zero]
 go_simp
 refine (HP2.out _ (HR.out.down (HB.out.trans (HX2.out.mono HB.out.size)))).mono ?_
 rintro _ y3 ⟨hy, a3, c3, rfl, hg3⟩
 have HX3 := Lib.hid (HX2.out.trans (hy.mono HX2.out.size))
 clear hy hg3
 refine hK.out _ _ (HS.out _ HX3.out) (fun _ => ?_)
 clear hK
 have hS3 := HS.out _ HX3.out
 refine tk 9 (.string p2.s) rfl ?_ hS3 ?_
 ·intro w' ⟨s0, s1, s2, s3⟩; go_simp; rw [fld2]; rfl
 simp only [List.getElem_toArray, List.getElem_cons_succ, List.getElem_cons_zero, Act.put, List.setIfInBounds_toArray, List.set_cons_zero, List.set_cons_succ]
 refine tk 10 (.agg #[.int .i64 p0.n, .bool (p1.n == 1), .string p2.s]) rfl ?_ hS3 ?_
 ·intro w' ⟨s0, s1, s2, s3⟩; go_simp
 simp only [List.getElem_toArray, List.getElem_cons_succ, List.getElem_cons_zero, Act.put, List.setIfInBounds_toArray, List.set_cons_zero, List.set_cons_succ]
 clear hS3
 refine wpAnyH_done (by kernel_rfl) ?_ _
 have hz := (HX3.out.block (w.heap.size + 1) (by omega)).trans HV.out
 obtain ⟨_, hf, _, _, hcl⟩ := block_facts hz
 have f0 := hf 0
 have v0 := hcl 0 _ rfl
 have f1 := hf 1
 have v1 := hcl 1 _ rfl
 have f2 := hf 2
 have v2 := hcl 2 _ rfl
 have HLT := Lib.hid (show w.heap.size + 1 < y3.heap.size by have := HX3.out.size; omega)
 clear hz hf hcl
 rw [Exit.then]
 rw [if_pos (by rfl)]
 go_simp
 go_wp2_with fail
 have t0 : (((y3.setCell ⟨w.heap.size + 1, 0, none⟩ (.int .i64 p0.n)).setCell ⟨w.heap.size + 1, 1, none⟩ (.bool (p1.n == 1))).setCell ⟨w.heap.size + 1, 2, none⟩ (.string p2.s)).cell? ⟨w.heap.size + 1, 0, none⟩ = some (.int .i64 p0.n) := by go_simp
 have t1 : (((y3.setCell ⟨w.heap.size + 1, 0, none⟩ (.int .i64 p0.n)).setCell ⟨w.heap.size + 1, 1, none⟩ (.bool (p1.n == 1))).setCell ⟨w.heap.size + 1, 2, none⟩ (.string p2.s)).cell? ⟨w.heap.size + 1, 1, none⟩ = some (.bool (p1.n == 1)) := by go_simp
 have t2 : (((y3.setCell ⟨w.heap.size + 1, 0, none⟩ (.int .i64 p0.n)).setCell ⟨w.heap.size + 1, 1, none⟩ (.bool (p1.n == 1))).setCell ⟨w.heap.size + 1, 2, none⟩ (.string p2.s)).cell? ⟨w.heap.size + 1, 2, none⟩ = some (.string p2.s) := by go_simp
 have hB := ((((HB.out.trans (HX3.out.mono HB.out.size)).setCell (p := ⟨w.heap.size + 1, 0, none⟩) (by show w.heap.size ≤ w.heap.size + 1; omega) (.int .i64 p0.n)).setCell (p := ⟨w.heap.size + 1, 1, none⟩) (by show w.heap.size ≤ w.heap.size + 1; omega) (.bool (p1.n == 1))).setCell (p := ⟨w.heap.size + 1, 2, none⟩) (by show w.heap.size ≤ w.heap.size + 1; omega) (.string p2.s))
 exact bodyPost_ret (v := .agg #[.int .i64 p0.n, .bool (p1.n == 1), .string p2.s]) (by simp [results, Tryz.results144, go_sem, t0, t1, t2]) rfl ⟨rfl, hB⟩
theorem memof_p (x : V4) (ad : Option Addr) (cap : Nat) (w : World) (h : RepG w (fun _ => True) ad x.l) :
  Calls Tryz.prog 102 #[.agg #[.int .i64 x.k, .int .i64 x.n, .string x.s, .slice ad x.l.len cap]] w fun e w' => e = .returned (.agg #[.int .i64 (memOf4 x).req, .int .i64 (memOf4 x).res.err, .int .i64 (memOf4 x).res.ver]) ∧ Below w.heap.size w w' := by
 obtain ⟨k, n, s, l⟩ := x
 dsimp only at h ⊢
 unfold memOf4
 dsimp only
 have HP0 : Hid (∀ W, RepG W (fun _ => True) ad l → Calls Tryz.prog 98 #[.agg #[.int .i64 k, .int .i64 n, .string s, .slice ad l.len cap], .int .i64 0] W (PAns (l.th 0) W)) := Lib.hid (fun W hW => part_p k n s l ad cap 0 W hW)
 have HP1 : Hid (∀ W, RepG W (fun _ => True) ad l → Calls Tryz.prog 98 #[.agg #[.int .i64 k, .int .i64 n, .string s, .slice ad l.len cap], .int .i64 1] W (PAns (l.th 1) W)) := Lib.hid (fun W hW => part_p k n s l ad cap 1 W hW)
 have HP2 : Hid (∀ W, RepG W (fun _ => True) ad l → Calls Tryz.prog 98 #[.agg #[.int .i64 k, .int .i64 n, .string s, .slice ad l.len cap], .int .i64 2] W (PAns (l.th 2) W)) := Lib.hid (fun W hW => part_p k n s l ad cap 2 W hW)
 have HR := Lib.hid h
 generalize l.th 0 = p0 at *
 generalize l.th 1 = p1 at *
 generalize l.th 2 = p2 at *
 generalize l.len = N at *
 have HB : Hid (Below w.heap.size w ((w.alloc (.cells #[.int .i64 k, .int .i64 n, .string s, .slice ad N cap] 88)).alloc (.cells #[.int .i64 0, .int .i64 0, .int .i64 0] 76))) := Lib.hid (((Below.refl _ _).alloc (Nat.le_refl _) _).alloc (by simp) _)
 have HS0 : Hid (∀ W, W = ((w.alloc (.cells #[.int .i64 k, .int .i64 n, .string s, .slice ad N cap] 88)).alloc (.cells #[.int .i64 0, .int .i64 0, .int .i64 0] 76)) → (W.cell? ⟨w.heap.size, 0, none⟩ = some (.int .i64 k) ∧ W.cell? ⟨w.heap.size, 1, none⟩ = some (.int .i64 n) ∧ W.cell? ⟨w.heap.size, 2, none⟩ = some (.string s) ∧ W.cell? ⟨w.heap.size, 3, none⟩ = some (.slice ad N cap)) ∧ W.heap[w.heap.size + 1]? = some (.cells #[.int .i64 0, .int .i64 0, .int .i64 0] 76 (0, 0)) ∧ w.heap.size + 2 ≤ W.heap.size) := Lib.hid (by
  rintro _ rfl
  refine ⟨⟨?_, ?_, ?_, ?_⟩, ?_, by simp⟩
  ·go_simp
  ·go_simp
  ·go_simp
  ·go_simp
  ·have := heap_alloc_new (w.alloc (.cells #[.int .i64 k, .int .i64 n, .string s, .slice ad N cap] 88)) (.cells #[.int .i64 0, .int .i64 0, .int .i64 0] 76)
   simpa using this)
 clear h
 go_enter Tryz.func102, Tryz.ntmps102
 go_wp2_with fail
 generalize ((w.alloc (.cells #[.int .i64 k, .int .i64 n, .string s, .slice ad N cap] 88)).alloc (.cells #[.int .i64 0, .int .i64 0, .int .i64 0] 76)) = W at *
 obtain ⟨hc, hv, hsz⟩ := HS0.out W rfl
 have HS : Hid (∀ W', Below W.heap.size W W' → W'.cell? ⟨w.heap.size, 0, none⟩ = some (.int .i64 k) ∧ W'.cell? ⟨w.heap.size, 1, none⟩ = some (.int .i64 n) ∧ W'.cell? ⟨w.heap.size, 2, none⟩ = some (.string s) ∧ W'.cell? ⟨w.heap.size, 3, none⟩ = some (.slice ad N cap)) := Lib.hid (fun W' hW => by
  obtain ⟨s0, s1, s2, s3⟩ := hc
  exact ⟨cell_kept hW (Nat.le_refl _) s0, cell_kept hW (Nat.le_refl _) s1, cell_kept hW (Nat.le_refl _) s2, cell_kept hW (Nat.le_refl _) s3⟩)
 have HV := Lib.hid hv
 clear hc hv HS0
 have hS0 := HS.out _ (Below.refl W.heap.size W).drew
 refine wp_region_last (S := fun W' => W'.cell? ⟨w.heap.size, 0, none⟩ = some (.int .i64 k) ∧ W'.cell? ⟨w.heap.size, 1, none⟩ = some (.int .i64 n) ∧ W'.cell? ⟨w.heap.size, 2, none⟩ = some (.string s) ∧ W'.cell? ⟨w.heap.size, 3, none⟩ = some (.slice ad N cap)) (by kernel_rfl) (ops := List.toArray [_, _, _, _, _, _, _, _, _, _, _]) (o := _) rfl (by kernel_rfl) ?_
 refine tk 0 (.agg #[.int .i64 k, .int .i64 n, .string s, .slice ad N cap]) rfl ?_ hS0 ?_
 ·intro w' ⟨s0, s1, s2, s3⟩; go_simp
 refine tk 3 (.agg #[.int .i64 k, .int .i64 n, .string s, .slice ad N cap]) rfl ?_ hS0 ?_
 ·intro w' ⟨s0, s1, s2, s3⟩; go_simp
 refine tk 6 (.agg #[.int .i64 k, .int .i64 n, .string s, .slice ad N cap]) rfl ?_ hS0 ?_
 ·intro w' ⟨s0, s1, s2, s3⟩; go_simp
 simp only [List.getElem_toArray, List.getElem_cons_succ, List.getElem_cons_zero, Act.put, List.setIfInBounds_toArray, List.set_cons_zero, List.set_cons_succ]
 have HX0 := Lib.hid (Below.refl W.heap.size W).drew
 clear hS0
 refine wpAnyH_ready (rs := [1]) (by kernel_rfl) (by simp) ?_
 refine AllReadyH.cons rfl (fun K hK => ?_) AllReadyH.nil
 simp only [List.getElem_toArray, List.getElem_cons_succ, List.getElem_cons_zero]
 go_simp
 refine (HP0.out _ (HR.out.down (HB.out.trans (HX0.out.mono HB.out.size)))).mono ?_
 rintro _ y1 ⟨hy, a1, c1, rfl, hg1⟩
 have HX1 := Lib.hid (HX0.out.trans (hy.mono HX0.out.size))
 clear hy hg1
 refine hK.out _ _ (HS.out _ HX1.out) (fun _ => ?_)
 clear hK
 have hS1 := HS.out _ HX1.out
 refine tk 2 (.int .i64 p0.n) rfl ?_ hS1 ?_
 ·intro w' ⟨s0, s1, s2, s3⟩; go_simp; rw [fld1]; rfl
 simp only [List.getElem_toArray, List.getElem_cons_succ, List.getElem_cons_zero, Act.put, List.setIfInBounds_toArray, List.set_cons_zero, List.set_cons_succ]
 clear hS1
 refine wpAnyH_ready (rs := [4]) (by kernel_rfl) (by simp) ?_
 refine AllReadyH.cons rfl (fun K hK => ?_) AllReadyH.nil
 simp only [List.getElem_toArray, List.getElem_cons_succ, List.getElem_cons_zero]
 go_simp
 refine (HP1.out _ (HR.out.down (HB.out.trans (HX1.out.mono HB.out.size)))).mono ?_
 rintro _ y2 ⟨hy, a2, c2, rfl, hg2⟩
 have HX2 := Lib.hid (HX1.out.trans (hy.mono HX1.out.size))
 clear hy hg2
 refine hK.out _ _ (HS.out _ HX2.out) (fun _ => ?_)
 clear hK
 have hS2 := HS.out _ HX2.out
 refine tk 5 (.int .i64 p1.n) rfl ?_ hS2 ?_
 ·intro w' ⟨s0, s1, s2, s3⟩; go_simp; rw [fld1]; rfl
 simp only [List.getElem_toArray, List.getElem_cons_succ, List.getElem_cons_zero, Act.put, List.setIfInBounds_toArray, List.set_cons_zero, List.set_cons_succ]
 clear hS2
 refine wpAnyH_ready (rs := [7]) (by kernel_rfl) (by simp) ?_
 refine AllReadyH.cons rfl (fun K hK => ?_) AllReadyH.nil
 simp only [List.getElem_toArray, List.getElem_cons_succ, List.getElem_cons_zero]
 go_simp
 refine (HP2.out _ (HR.out.down (HB.out.trans (HX2.out.mono HB.out.size)))).mono ?_
 rintro _ y3 ⟨hy, a3, c3, rfl, hg3⟩
 have HX3 := Lib.hid (HX2.out.trans (hy.mono HX2.out.size))
 clear hy hg3
 refine hK.out _ _ (HS.out _ HX3.out) (fun _ => ?_)
 clear hK
 have hS3 := HS.out _ HX3.out
 refine tk 8 (.int .i64 p2.n) rfl ?_ hS3 ?_
 ·intro w' ⟨s0, s1, s2, s3⟩; go_simp; rw [fld1]; rfl
 simp only [List.getElem_toArray, List.getElem_cons_succ, List.getElem_cons_zero, Act.put, List.setIfInBounds_toArray, List.set_cons_zero, List.set_cons_succ]
 refine tk 9 (.agg #[.int .i64 p1.n, .int .i64 p2.n]) rfl ?_ hS3 ?_
 ·intro w' ⟨s0, s1, s2, s3⟩; go_simp
 simp only [List.getElem_toArray, List.getElem_cons_succ, List.getElem_cons_zero, Act.put, List.setIfInBounds_toArray, List.set_cons_zero, List.set_cons_succ]
 refine tk 10 (.agg #[.int .i64 p0.n, .int .i64 p1.n, .int .i64 p2.n]) rfl ?_ hS3 ?_
 ·intro w' ⟨s0, s1, s2, s3⟩; go_simp
 simp only [List.getElem_toArray, List.getElem_cons_succ, List.getElem_cons_zero, Act.put, List.setIfInBounds_toArray, List.set_cons_zero, List.set_cons_succ]
 clear hS3
 refine wpAnyH_done (by kernel_rfl) ?_ _
 have hz := (HX3.out.block (w.heap.size + 1) (by omega)).trans HV.out
 obtain ⟨_, hf, _, _, hcl⟩ := block_facts hz
 have f0 := hf 0
 have v0 := hcl 0 _ rfl
 have f1 := hf 1
 have v1 := hcl 1 _ rfl
 have f2 := hf 2
 have v2 := hcl 2 _ rfl
 have HLT := Lib.hid (show w.heap.size + 1 < y3.heap.size by have := HX3.out.size; omega)
 clear hz hf hcl
 rw [Exit.then]
 rw [if_pos (by rfl)]
 go_simp
 go_wp2_with fail
 have t0 : (((y3.setCell ⟨w.heap.size + 1, 0, none⟩ (.int .i64 p0.n)).setCell ⟨w.heap.size + 1, 1, none⟩ (.int .i64 p1.n)).setCell ⟨w.heap.size + 1, 2, none⟩ (.int .i64 p2.n)).cell? ⟨w.heap.size + 1, 0, none⟩ = some (.int .i64 p0.n) := by go_simp
 have t1 : (((y3.setCell ⟨w.heap.size + 1, 0, none⟩ (.int .i64 p0.n)).setCell ⟨w.heap.size + 1, 1, none⟩ (.int .i64 p1.n)).setCell ⟨w.heap.size + 1, 2, none⟩ (.int .i64 p2.n)).cell? ⟨w.heap.size + 1, 1, none⟩ = some (.int .i64 p1.n) := by go_simp
 have t2 : (((y3.setCell ⟨w.heap.size + 1, 0, none⟩ (.int .i64 p0.n)).setCell ⟨w.heap.size + 1, 1, none⟩ (.int .i64 p1.n)).setCell ⟨w.heap.size + 1, 2, none⟩ (.int .i64 p2.n)).cell? ⟨w.heap.size + 1, 2, none⟩ = some (.int .i64 p2.n) := by go_simp
 have hB := ((((HB.out.trans (HX3.out.mono HB.out.size)).setCell (p := ⟨w.heap.size + 1, 0, none⟩) (by show w.heap.size ≤ w.heap.size + 1; omega) (.int .i64 p0.n)).setCell (p := ⟨w.heap.size + 1, 1, none⟩) (by show w.heap.size ≤ w.heap.size + 1; omega) (.int .i64 p1.n)).setCell (p := ⟨w.heap.size + 1, 2, none⟩) (by show w.heap.size ≤ w.heap.size + 1; omega) (.int .i64 p2.n))
 exact bodyPost_ret (v := .agg #[.int .i64 p0.n, .int .i64 p1.n, .int .i64 p2.n]) (by simp [results, Tryz.results102, go_sem, t0, t1, t2]) rfl ⟨rfl, hB⟩
def b4put (s : Bk) : ByteArray := if bmay s then putS 3 0 ⟨#[]⟩ (b4book s).l else ⟨#[]⟩
theorem bput_p (s : Bk) (u v : Value) (w : World) (h : BAt w s u v) (hwf : s.wf) (hw : (b4book s).l.wf) (hp : PowAt w) :
  Calls Tryz.prog 22 #[bagg s u v] w fun e w' => e = .returned (.string (b4put s)) ∧ Below w.heap.size w w' := by
 obtain ⟨ad, cap, rfl, _⟩ := h.es.shape
 obtain ⟨ad', cap', rfl, _⟩ := h.ms.shape
 have hb0 : Below w.heap.size w (w.alloc (.cells (bcells s (.slice ad s.l.length cap) (.slice ad' s.ms.length cap')) 27)) := (Below.refl _ w).alloc (Nat.le_refl _) _
 have hC : BC (w.alloc (.cells (bcells s (.slice ad s.l.length cap) (.slice ad' s.ms.length cap')) 27)) w.heap.size s (.slice ad s.l.length cap) (.slice ad' s.ms.length cap') := BC.new w s _ _
 have HB := Lib.hid hb0
 have HM := Lib.hid (bmay_p s _ _ _ (h.below hb0) hwf)
 have HV := Lib.hid (fun W (hW : Below w.heap.size w W) => bookval_p s _ _ W (h.below hW))
 have HP := Lib.hid (fun (ad : Option Addr) cap W (h1 : PowAt W) h2 => Put_p 3 0 ⟨#[]⟩ (b4book s).l ad cap W h1 (by omega) hw h2)
 have HPW := Lib.hid hp
 have HC := Lib.hid hC
 obtain ⟨q0, q1, q2, q3, q4, q5, q6, q7⟩ := hC.cells
 have hk : (b4book s).k = 3 ∧ (b4book s).n = 0 ∧ (b4book s).s = ⟨#[]⟩ := ⟨rfl, rfl, rfl⟩
 unfold VAns at HV
 rw [hk.1, hk.2.1, hk.2.2] at HV
 unfold b4put
 generalize bmay s = R at *
 generalize (b4book s).l = L at *
 obtain ⟨N, hN⟩ : ∃ N, L.len = N := ⟨_, rfl⟩
 rw [hN] at HV HP
 generalize putS 3 0 ⟨#[]⟩ L = T at *
 clear h hb0 hC hp hwf hk hN hw
 unfold bagg at *
 unfold bcells at *
 go_enter Tryz.func22, Tryz.ntmps22
 go_wp2_with fail
 refine HM.out.mono ?_
 rintro _ w1 ⟨rfl, hb1⟩
 have HB1 := Lib.hid (HB.out.trans (hb1.mono HB.out.size))
 have hC1 := HC.out.below hb1
 clear hb1 q0 q1 q2 q3 q4 q5 q6 q7
 obtain ⟨p0, p1, p2, p3, p4, p5, p6, p7⟩ := hC1.cells
 clear hC1
 cases R with
 | false =>
  go_wp2_with fail
  go_ret
  exact ⟨rfl, HB1.out⟩
 | true =>
  go_wp2_with fail
  refine (HV.out _ HB1.out).mono ?_
  rintro _ w2 ⟨hb2, a2, c2, rfl, hg⟩
  have HX := Lib.hid (HP.out a2 c2 w2 (HPW.out.below (HB1.out.trans (hb2.mono HB1.out.size))) hg.repS)
  have HB2 := Lib.hid (HB1.out.trans (hb2.mono HB1.out.size))
  clear hb2 hg p0 p1 p2 p3 p4 p5 p6 p7
  go_wp2_with fail
  refine HX.out.mono ?_
  rintro _ w3 ⟨rfl, hb3⟩
  have HB3 := Lib.hid (HB2.out.trans (hb3.mono HB2.out.size))
  clear hb3
  go_wp2_with fail
  go_ret
  exact ⟨rfl, HB3.out⟩
def JoinC (b : Bool) (cl cl' : Pl → Pl) (x y : Pl) : Prop :=
 (∀ p q, cl p = cl q → cl' p = cl' q) ∧ cl' x = cl' y ∧ match b with
  | false => ∀ p q, cl' p = cl' q → cl p = cl q
  | true => ∀ p q, cl' p = cl' q → cl p = cl q ∨ (cl p = cl x ∧ cl q = cl y) ∨ (cl p = cl y ∧ cl q = cl x)
theorem JoinC.same {cl : Pl → Pl} {x y : Pl} (h : cl x = cl y) : JoinC false cl cl x y := ⟨fun _ _ h => h, h, fun _ _ h => h⟩
theorem JoinC.new {cl : Pl → Pl} {x y X Y : Pl} (hx : cl x = X) (hy : cl y = Y) : JoinC true cl (fun p => if cl p = X then Y else cl p) x y := by
 refine ⟨fun p q h => by show (if cl p = X then Y else cl p) = (if cl q = X then Y else cl q); rw [h], ?_, fun p q h => ?_⟩
 ·show (if cl x = X then Y else cl x) = (if cl y = X then Y else cl y)
  rw [if_pos hx]
  by_cases e : cl y = X
  ·rw [if_pos e]
  ·rw [if_neg e, hy]
 ·have h' : (if cl p = X then Y else cl p) = (if cl q = X then Y else cl q) := h
  by_cases e1 : cl p = X
  ·by_cases e2 : cl q = X
   ·exact .inl (e1.trans e2.symm)
   ·rw [if_pos e1, if_neg e2] at h'
    exact .inr (.inl ⟨e1.trans hx.symm, h'.symm.trans hy.symm⟩)
  ·by_cases e2 : cl q = X
   ·rw [if_neg e1, if_pos e2] at h'
    exact .inr (.inr ⟨h'.trans hy.symm, e2.trans hx.symm⟩)
   ·rw [if_neg e1, if_neg e2] at h'
    exact .inl h'
def ClsC (A : Pl → Prop) (cl : Pl → Pl) (E : List (Pl × Pl)) : Prop := ∃ (r : Pl → Nat), Inv r cl E ∧ ∀ e ∈ E, A e.1 ∧ A e.2
theorem Inv.joinc {r : Pl → Nat} {cl : Pl → Pl} {E : List (Pl × Pl)} (h : Inv r cl E) {x y : Pl} (h1 : lk E x = none) (h2 : lk E y = none) (hne : x ≠ y) : ∃ r', Inv r' (fun p => if cl p = x then y else cl p) (st E x y) := by
 have cx := h.2 x h1
 have cy := h.2 y h2
 refine ⟨fun p => if cl p = y then r p + r x + 1 else r p, fun e he => ?_, fun p hp => ?_⟩
 ·rcases st_mem E x y e he with rfl | he
  ·have e1 : ¬ cl x = y := by rw [cx]; exact hne
   have e2 : ¬ cl y = x := by rw [cy]; exact fun e => hne e.symm
   show (if cl x = y then _ else _) < (if cl y = y then _ else _) ∧ (if cl x = x then y else cl x) = (if cl y = x then y else cl y)
   rw [if_neg e1, if_pos cy, if_pos cx, if_neg e2]
   exact ⟨by show r x < r y + r x + 1; omega, cy.symm⟩
  ·obtain ⟨a, b⟩ := h.1 e he
   show (if cl e.1 = y then _ else _) < (if cl e.2 = y then _ else _) ∧ (if cl e.1 = x then y else cl e.1) = (if cl e.2 = x then y else cl e.2)
   rw [b]
   refine ⟨?_, rfl⟩
   by_cases hy : cl e.2 = y
   ·rw [if_pos hy, if_pos hy]; omega
   ·rw [if_neg hy, if_neg hy]; exact a
 ·rw [lk_st] at hp
  by_cases hx : p = x
  ·rw [if_pos hx] at hp; cases hp
  ·rw [if_neg hx] at hp
   have := h.2 p hp
   show (if cl p = x then y else cl p) = p
   rw [this, if_neg hx]
def JoinQ (A : Pl → Prop) (cl : Pl → Pl) (x y : Pl) (w : World) (m : Nat) (b : Bool) (w' : World) : Prop := ∃ E' cl', MapIs w' m E' ∧ SavM m w w' ∧ ClsC A cl' E' ∧ JoinC b cl cl' x y
theorem join_c (cl : Pl → Pl) (m : Nat) (E : List (Pl × Pl)) (xa ya : Addr) (xn yn : Int) (w : World) (A : Pl → Prop) (hA : ∀ p, A p → GoodP w p) (hm : MapIs w m E) (hc : ClsC A cl E) (hx : A (xa, xn)) (hy : A (ya, yn)) :
  Calls Tryz.prog 137 #[.map (some m), .agg #[.pointer (some xa), .int .i64 xn], .agg #[.pointer (some ya), .int .i64 yn]] w fun e w' => ∃ b, e = .returned (.bool b) ∧ JoinQ A cl (xa, xn) (ya, yn) w m b w' := by
 obtain ⟨r, hI, hG⟩ := hc
 obtain ⟨R, hR0, hR⟩ := bound_of r (r (xa, xn) + r (ya, yn)) E
 have hml := hm.lt
 have hmne : w.heap.size ≠ m ∧ w.heap.size + 1 ≠ m := ⟨by omega, by omega⟩
 have HA := Lib.hid hA
 have HM := Lib.hid (And.intro hm (And.intro hG (And.intro hx (And.intro hy (And.intro hI (And.intro hR (And.intro hR0 (And.intro hml hmne))))))))
 clear hA hm hG hx hy hI hR hR0 hml hmne
 go_enter Tryz.func137, Tryz.ntmps137
 go_wp2_with fail
 have e0 : ((w.alloc (.cells #[.pointer (some xa), .int .i64 xn] 189)).alloc (.cells #[.pointer (some ya), .int .i64 yn] 189)).cell? ⟨w.heap.size, 0, none⟩ = some (.pointer (some xa)) := by go_simp
 have e1 : ((w.alloc (.cells #[.pointer (some xa), .int .i64 xn] 189)).alloc (.cells #[.pointer (some ya), .int .i64 yn] 189)).cell? ⟨w.heap.size, 1, none⟩ = some (.int .i64 xn) := by go_simp
 have e2 : ((w.alloc (.cells #[.pointer (some xa), .int .i64 xn] 189)).alloc (.cells #[.pointer (some ya), .int .i64 yn] 189)).cell? ⟨w.heap.size + 1, 0, none⟩ = some (.pointer (some ya)) := by go_simp
 have e3 : ((w.alloc (.cells #[.pointer (some xa), .int .i64 xn] 189)).alloc (.cells #[.pointer (some ya), .int .i64 yn] 189)).cell? ⟨w.heap.size + 1, 1, none⟩ = some (.int .i64 yn) := by go_simp
 have f0 : ∀ o : Nat, ((w.alloc (.cells #[.pointer (some xa), .int .i64 xn] 189)).alloc (.cells #[.pointer (some ya), .int .i64 yn] 189)).frozen? ⟨w.heap.size, o, none⟩ = false := by intro o; go_simp
 have f1 : ∀ o : Nat, ((w.alloc (.cells #[.pointer (some xa), .int .i64 xn] 189)).alloc (.cells #[.pointer (some ya), .int .i64 yn] 189)).frozen? ⟨w.heap.size + 1, o, none⟩ = false := by intro o; go_simp
 have hBV : Below w.heap.size w ((w.alloc (.cells #[.pointer (some xa), .int .i64 xn] 189)).alloc (.cells #[.pointer (some ya), .int .i64 yn] 189)) := ((Below.refl _ _).alloc (Nat.le_refl _) _).alloc (by simp) _
 have hVs : ((w.alloc (.cells #[.pointer (some xa), .int .i64 xn] 189)).alloc (.cells #[.pointer (some ya), .int .i64 yn] 189)).heap.size = w.heap.size + 2 := by simp
 generalize (w.alloc (.cells #[.pointer (some xa), .int .i64 xn] 189)).alloc (.cells #[.pointer (some ya), .int .i64 yn] 189) = V at *
 have HBV := Lib.hid (And.intro hBV hVs)
 have hgV : ∀ p : Pl, A p → GoodP V.drew p := fun p hp => (HA.out p hp).sav ((HA.out p hp).ne HM.out.1) (SavM.of_below hBV.drew)
 have L1 := last_g m E xa xn r cl R V.drew A hgV (HM.out.1.of_block (hBV.drew.block m HM.out.2.2.2.2.2.2.2.1)) HM.out.2.1 HM.out.2.2.1 HM.out.2.2.2.2.1 HM.out.2.2.2.2.2.1 (by have := HM.out.2.2.2.2.2.2.1; omega)
 have HL1 := Lib.hid (And.intro L1 hgV)
 clear L1 hgV hBV hVs
 refine wp_region_D (S := fun L W => (L.getD 6 false = false → W.cell? ⟨w.heap.size, 0, none⟩ = some (.pointer (some xa)) ∧ W.cell? ⟨w.heap.size, 1, none⟩ = some (.int .i64 xn)) ∧ (L.getD 7 false = false → W.cell? ⟨w.heap.size + 1, 0, none⟩ = some (.pointer (some ya)) ∧ W.cell? ⟨w.heap.size + 1, 1, none⟩ = some (.int .i64 yn))) (by kernel_rfl) ⟨fun _ => ⟨e0, e1⟩, fun _ => ⟨e2, e3⟩⟩ (fun hS0 => ?_)
 refine wpAnyD_take (i := 0) (v := Value.map (some m)) rfl (by kernel_rfl) (by kernel_rfl) (by kernel_rfl) (by kernel_rfl) (fun _ _ _ h => h) (fun L w => by simp only [set_ne6 L 0 (by decide), set_ne7 L 0 (by decide)]) (by kernel_rfl) hS0 ⟨by rfl, fun L w' hL hD hS => ?_⟩ (fun hS0 => ?_)
 ·refine .inl ?_
  go_simp
 refine wpAnyD_take (i := 1) (v := Value.agg #[.pointer (some xa), .int .i64 xn]) rfl (by kernel_rfl) (by kernel_rfl) (by kernel_rfl) (by kernel_rfl) (fun _ _ _ h => h) (fun L w => by simp only [set_ne6 L 1 (by decide), set_ne7 L 1 (by decide)]) (by kernel_rfl) hS0 ⟨by rfl, fun L w' hL hD hS => ?_⟩ (fun hS0 => ?_)
 ·obtain ⟨hh, hh2⟩ := hS.1 (blocked (j := 6) hD hL (by kernel_rfl))
  refine .inl ?_
  go_simp
 refine wpAnyD_take (i := 3) (v := Value.map (some m)) rfl (by kernel_rfl) (by kernel_rfl) (by kernel_rfl) (by kernel_rfl) (fun _ _ _ h => h) (fun L w => by simp only [set_ne6 L 3 (by decide), set_ne7 L 3 (by decide)]) (by kernel_rfl) hS0 ⟨by rfl, fun L w' hL hD hS => ?_⟩ (fun hS0 => ?_)
 ·refine .inl ?_
  go_simp
 refine wpAnyD_take (i := 4) (v := Value.agg #[.pointer (some ya), .int .i64 yn]) rfl (by kernel_rfl) (by kernel_rfl) (by kernel_rfl) (by kernel_rfl) (fun _ _ _ h => h) (fun L w => by simp only [set_ne6 L 4 (by decide), set_ne7 L 4 (by decide)]) (by kernel_rfl) hS0 ⟨by rfl, fun L w' hL hD hS => ?_⟩ (fun hS0 => ?_)
 ·obtain ⟨hh, hh2⟩ := hS.2 (blocked (j := 7) hD hL (by kernel_rfl))
  refine .inl ?_
  go_simp
 clear hS0
 refine wpAnyD_one (i := 2) (by kernel_rfl) rfl (by kernel_rfl) (fun K hK => ?_)
 go_simp
 refine HL1.out.1.mono ?_
 rintro _ w1 ⟨E1, pa, pn, rfl, h1⟩
 have hgV := HL1.out.2
 have hg1 : ∀ p : Pl, A p → GoodP w1 p := fun p hp => (hgV p hp).sav ((hgV p hp).ne (HM.out.1.of_block (HBV.out.1.drew.block m HM.out.2.2.2.2.2.2.2.1))) h1.sav
 have L2 := last_g m E1 ya yn r cl R w1 A hg1 h1.map h1.good HM.out.2.2.2.1 h1.inv h1.bnd (by have := HM.out.2.2.2.2.2.2.1; omega)
 have HL2 := Lib.hid (And.intro L2 (And.intro h1 hg1))
 have hVd : V.drew.heap.size = w.heap.size + 2 := HBV.out.2
 have k0 := h1.sav.cell (show V.drew.cell? ⟨w.heap.size, 0, none⟩ = _ from e0) HM.out.2.2.2.2.2.2.2.2.1
 have k1 := h1.sav.cell (show V.drew.cell? ⟨w.heap.size, 1, none⟩ = _ from e1) HM.out.2.2.2.2.2.2.2.2.1
 have k2 := h1.sav.cell (show V.drew.cell? ⟨w.heap.size + 1, 0, none⟩ = _ from e2) HM.out.2.2.2.2.2.2.2.2.2
 have k3 := h1.sav.cell (show V.drew.cell? ⟨w.heap.size + 1, 1, none⟩ = _ from e3) HM.out.2.2.2.2.2.2.2.2.2
 have g0 : ∀ o : Nat, w1.frozen? ⟨w.heap.size, o, none⟩ = false := fun o => h1.sav.frz (by omega) (f0 o) HM.out.2.2.2.2.2.2.2.2.1
 have g1 : ∀ o : Nat, w1.frozen? ⟨w.heap.size + 1, o, none⟩ = false := fun o => h1.sav.frz (by omega) (f1 o) HM.out.2.2.2.2.2.2.2.2.2
 clear L2 h1 hg1 hgV e0 e1 e2 e3 f0 f1
 refine hK.out _ _ ⟨fun _ => ⟨k0, k1⟩, fun _ => ⟨k2, k3⟩⟩ (fun _ => ?_)
 clear hK
 refine wpAnyD_one (i := 5) (by kernel_rfl) rfl (by kernel_rfl) (fun K hK => ?_)
 go_simp
 refine HL2.out.1.mono ?_
 rintro _ w2 ⟨E2, qa, qn, rfl, h2⟩
 have h1 := HL2.out.2.1
 have hw1s := h1.sav.size
 have hw2s := h2.sav.size
 have m0 := h2.sav.cell k0 HM.out.2.2.2.2.2.2.2.2.1
 have m1 := h2.sav.cell k1 HM.out.2.2.2.2.2.2.2.2.1
 have m2 := h2.sav.cell k2 HM.out.2.2.2.2.2.2.2.2.2
 have m3 := h2.sav.cell k3 HM.out.2.2.2.2.2.2.2.2.2
 have n0 : w2.frozen? ⟨w.heap.size, 0, none⟩ = false := h2.sav.frz (by omega) (g0 0) HM.out.2.2.2.2.2.2.2.2.1
 have n1 : w2.frozen? ⟨w.heap.size, 1, none⟩ = false := h2.sav.frz (by omega) (g0 1) HM.out.2.2.2.2.2.2.2.2.1
 have n2 : w2.frozen? ⟨w.heap.size + 1, 0, none⟩ = false := h2.sav.frz (by omega) (g1 0) HM.out.2.2.2.2.2.2.2.2.2
 have n3 : w2.frozen? ⟨w.heap.size + 1, 1, none⟩ = false := h2.sav.frz (by omega) (g1 1) HM.out.2.2.2.2.2.2.2.2.2
 have H2 := Lib.hid (And.intro h1 h2)
 clear h1 h2 k0 k1 k2 k3 g0 g1
 refine hK.out _ _ ⟨fun _ => ⟨m0, m1⟩, fun _ => ⟨m2, m3⟩⟩ (fun _ => ?_)
 clear hK
 have u2 : ((w2.setCell ⟨w.heap.size, 0, none⟩ (.pointer (some pa))).setCell ⟨w.heap.size, 1, none⟩ (.int .i64 pn)).cell? ⟨w.heap.size + 1, 0, none⟩ = some (.pointer (some ya)) := by go_simp
 have u3 : ((w2.setCell ⟨w.heap.size, 0, none⟩ (.pointer (some pa))).setCell ⟨w.heap.size, 1, none⟩ (.int .i64 pn)).cell? ⟨w.heap.size + 1, 1, none⟩ = some (.int .i64 yn) := by go_simp
 have HU := Lib.hid (And.intro u2 u3)
 clear u2 u3
 refine wpAnyD_one (i := 6) (by kernel_rfl) rfl (by kernel_rfl) (fun K hK => ?_)
 go_simp
 refine hK.out _ _ ⟨fun h => (by cases h), fun _ => HU.out⟩ (fun _ => ?_)
 clear hK
 refine wpAnyD_one (i := 7) (by kernel_rfl) rfl (by kernel_rfl) (fun K hK => ?_)
 go_simp
 refine hK.out _ _ ⟨fun h => (by cases h), fun h => (by cases h)⟩ (fun _ => ?_)
 clear hK
 refine wpAnyD_done (by kernel_rfl) ?_ _
 have c0 : ((((w2.setCell ⟨w.heap.size, 0, none⟩ (.pointer (some pa))).setCell ⟨w.heap.size, 1, none⟩ (.int .i64 pn)).setCell ⟨w.heap.size + 1, 0, none⟩ (.pointer (some qa))).setCell ⟨w.heap.size + 1, 1, none⟩ (.int .i64 qn)).cell? ⟨w.heap.size, 0, none⟩ = some (.pointer (some pa)) := by go_simp
 have c1 : ((((w2.setCell ⟨w.heap.size, 0, none⟩ (.pointer (some pa))).setCell ⟨w.heap.size, 1, none⟩ (.int .i64 pn)).setCell ⟨w.heap.size + 1, 0, none⟩ (.pointer (some qa))).setCell ⟨w.heap.size + 1, 1, none⟩ (.int .i64 qn)).cell? ⟨w.heap.size, 1, none⟩ = some (.int .i64 pn) := by go_simp
 have c2 : ((((w2.setCell ⟨w.heap.size, 0, none⟩ (.pointer (some pa))).setCell ⟨w.heap.size, 1, none⟩ (.int .i64 pn)).setCell ⟨w.heap.size + 1, 0, none⟩ (.pointer (some qa))).setCell ⟨w.heap.size + 1, 1, none⟩ (.int .i64 qn)).cell? ⟨w.heap.size + 1, 0, none⟩ = some (.pointer (some qa)) := by go_simp
 have c3 : ((((w2.setCell ⟨w.heap.size, 0, none⟩ (.pointer (some pa))).setCell ⟨w.heap.size, 1, none⟩ (.int .i64 pn)).setCell ⟨w.heap.size + 1, 0, none⟩ (.pointer (some qa))).setCell ⟨w.heap.size + 1, 1, none⟩ (.int .i64 qn)).cell? ⟨w.heap.size + 1, 1, none⟩ = some (.int .i64 qn) := by go_simp
 have hb4 : Below w.heap.size w2 ((((w2.setCell ⟨w.heap.size, 0, none⟩ (.pointer (some pa))).setCell ⟨w.heap.size, 1, none⟩ (.int .i64 pn)).setCell ⟨w.heap.size + 1, 0, none⟩ (.pointer (some qa))).setCell ⟨w.heap.size + 1, 1, none⟩ (.int .i64 qn)) := ((((Below.refl _ _).setCell (by simp) _).setCell (by simp) _).setCell (by simp) _).setCell (by simp) _
 generalize (((w2.setCell ⟨w.heap.size, 0, none⟩ (.pointer (some pa))).setCell ⟨w.heap.size, 1, none⟩ (.int .i64 pn)).setCell ⟨w.heap.size + 1, 0, none⟩ (.pointer (some qa))).setCell ⟨w.heap.size + 1, 1, none⟩ (.int .i64 qn) = W at *
 have h1 := H2.out.1
 have h2 := H2.out.2
 have hmlt := HM.out.2.2.2.2.2.2.2.1
 have hsV : SavM m w V.drew := SavM.of_below HBV.out.1.drew
 have hs2 : SavM m w w2 := (hsV.trans h1.sav).trans h2.sav
 have hsW : SavM m w W := hs2.below hb4
 have hmW : MapIs W m E2 := h2.map.of_block (hb4.block m hmlt)
 have hgW : ∀ p : Pl, A p → GoodP W p := fun p hp => (HA.out p hp).sav ((HA.out p hp).ne HM.out.1) hsW
 have hroot : lk E2 (pa, pn) = none := (h2.keys _).2 h1.root
 have hp := hgW _ h1.goody
 have hq := hgW _ h2.goody
 have hcls : ClsC A cl E2 := ⟨r, h2.inv, h2.good⟩
 have hrx : cl (xa, xn) = (pa, pn) := h1.cls.symm.trans (h2.inv.2 _ hroot)
 have hry : cl (ya, yn) = (qa, qn) := h2.cls.symm.trans (h2.inv.2 _ h2.root)
 have HRT := Lib.hid (And.intro hrx hry)
 clear hrx hry
 have HW := Lib.hid (And.intro hsW (And.intro hmW hcls))
 by_cases hab : pa = qa
 ·subst hab
  have heq := run_ptr_same W pa 9998
  by_cases hnn : pn = qn
  ·subst hnn
   clear h1 h2 hmlt hsV hs2 hsW hmW hgW hroot hp hq hcls hb4
   go_wp2_with fail
   go_ret
   have HF : JoinQ A cl (xa, xn) (ya, yn) w m false W := ⟨E2, cl, HW.out.2.1, HW.out.1, HW.out.2.2, JoinC.same (HRT.out.1.trans HRT.out.2.symm)⟩
   first | exact ⟨false, rfl, HF⟩ | exact .inl ⟨rfl, HF⟩
  ·obtain ⟨w3, hpw, hmp, hsp, _⟩ := run_put_g m (pa, pn) (pa, qn) W E2 hmW hp (fun e he => hgW _ (h2.good e he).1)
   unfold plV at hpw
   have hj := h2.inv.joinc hroot h2.root (fun e => hnn (Prod.mk.inj e).2)
   have HE : Hid (JoinQ A cl (xa, xn) (ya, yn) w m true w3) := Lib.hid (by
    obtain ⟨r', j3⟩ := hj
    refine ⟨_, _, hmp, hsW.trans hsp, ⟨r', j3, fun e he => ?_⟩, JoinC.new HRT.out.1 HRT.out.2⟩
    rcases st_mem _ _ _ _ he with rfl | he
    ·exact ⟨h1.goody, h2.goody⟩
    ·exact h2.good e he)
   have hbn : (pn == qn) = false := by rw [beq_eq_false_iff_ne]; exact hnn
   clear h1 h2 hmlt hsV hs2 hsW hmW hgW hroot hp hq hcls hb4 hmp hsp hj hnn
   go_wp2_with fail
   go_ret
   first | exact ⟨true, rfl, HE.out⟩ | exact .inr ⟨rfl, HE.out⟩
 ·have heq : (Op.equalIn 9999 186 (.pointer (some pa)) (.pointer (some qa))).run Tryz.prog W = .ok false W := by
   obtain ⟨c1, t1, h1⟩ := hp
   obtain ⟨c2, t2, h2⟩ := hq
   exact run_ptr_other W hab h1 h2 9998
  obtain ⟨w3, hpw, hmp, hsp, _⟩ := run_put_g m (pa, pn) (qa, qn) W E2 hmW hp (fun e he => hgW _ (h2.good e he).1)
  unfold plV at hpw
  have hj := h2.inv.joinc hroot h2.root (fun e => hab (Prod.mk.inj e).1)
  have HE : Hid (JoinQ A cl (xa, xn) (ya, yn) w m true w3) := Lib.hid (by
   obtain ⟨r', j3⟩ := hj
   refine ⟨_, _, hmp, hsW.trans hsp, ⟨r', j3, fun e he => ?_⟩, JoinC.new HRT.out.1 HRT.out.2⟩
   rcases st_mem _ _ _ _ he with rfl | he
   ·exact ⟨h1.goody, h2.goody⟩
   ·exact h2.good e he)
  clear h1 h2 hmlt hsV hs2 hsW hmW hgW hroot hp hq hcls hb4 hmp hsp hj hab
  go_wp2_with fail
  go_ret
  first | exact ⟨true, rfl, HE.out⟩ | exact .inr ⟨rfl, HE.out⟩
def eqK (K : F → F → Prop) : F → F → Prop
 | .nil, .nil => True
 | .cons k n s l r, .cons k' n' s' l' r' => (k = k' ∧ n = n' ∧ s = s') ∧ K l l' ∧ eqK K r r'
 | .nil, .cons .. => False
 | .cons .., .nil => False
def eqN : Nat → F → F → Prop
 | 0 => fun _ _ => True
 | d + 1 => eqK (eqN d)
theorem eqK_mono {K K' : F → F → Prop} (h : ∀ l l', K l l' → K' l l') : ∀ f g, eqK K f g → eqK K' f g
 | .nil, .nil, _ => trivial
 | .cons _ _ _ _ r, .cons _ _ _ _ r', hk => ⟨hk.1, h _ _ hk.2.1, eqK_mono h r r' hk.2.2⟩
 | .nil, .cons .., hk => hk.elim
 | .cons .., .nil, hk => hk.elim
theorem eqK_refl {K : F → F → Prop} (h : ∀ l, K l l) : ∀ f, eqK K f f
 | .nil => trivial
 | .cons _ _ _ l r => ⟨⟨rfl, rfl, rfl⟩, h l, eqK_refl h r⟩
theorem eqK_symm {K : F → F → Prop} (h : ∀ l l', K l l' → K l' l) : ∀ f g, eqK K f g → eqK K g f
 | .nil, .nil, _ => trivial
 | .cons _ _ _ _ r, .cons _ _ _ _ r', hk => ⟨⟨hk.1.1.symm, hk.1.2.1.symm, hk.1.2.2.symm⟩, h _ _ hk.2.1, eqK_symm h r r' hk.2.2⟩
 | .nil, .cons .., hk => hk.elim
 | .cons .., .nil, hk => hk.elim
theorem eqK_trans {K : F → F → Prop} (h : ∀ l l' l'', K l l' → K l' l'' → K l l'') : ∀ f g i, eqK K f g → eqK K g i → eqK K f i
 | .nil, .nil, .nil, _, _ => trivial
 | .cons _ _ _ _ r, .cons _ _ _ _ r', .cons _ _ _ _ r'', a, b => ⟨⟨a.1.1.trans b.1.1, a.1.2.1.trans b.1.2.1, a.1.2.2.trans b.1.2.2⟩, h _ _ _ a.2.1 b.2.1, eqK_trans h r r' r'' a.2.2 b.2.2⟩
 | .nil, .cons .., _, a, _ => a.elim
 | .cons .., .nil, _, a, _ => a.elim
 | .nil, .nil, .cons .., _, b => b.elim
 | .cons .., .cons .., .nil, _, b => b.elim
theorem eqN_refl : ∀ (d : Nat) (f : F), eqN d f f
 | 0, _ => trivial
 | d + 1, f => eqK_refl (eqN_refl d) f
theorem eqN_symm : ∀ (d : Nat) (f g : F), eqN d f g → eqN d g f
 | 0, _, _, _ => trivial
 | d + 1, f, g, h => eqK_symm (eqN_symm d) f g h
theorem eqN_trans : ∀ (d : Nat) (f g i : F), eqN d f g → eqN d g i → eqN d f i
 | 0, _, _, _, _, _ => trivial
 | d + 1, f, g, i, h, h' => eqK_trans (eqN_trans d) f g i h h'
theorem eqN_less : ∀ (d : Nat) (f g : F), eqN (d + 1) f g → eqN d f g
 | 0, _, _, _ => trivial
 | d + 1, f, g, h => eqK_mono (fun l l' => eqN_less d l l') f g h
theorem eq_of_eqN : ∀ (f g : F), (∀ d, eqN d f g) → f = g
 | .nil, .nil, _ => rfl
 | .cons k n s l r, .cons k' n' s' l' r', h => by
  obtain ⟨⟨rfl, rfl, rfl⟩, _, _⟩ := h 1
  have h1 : l = l' := eq_of_eqN l l' (fun d => (h (d + 1)).2.1)
  have h2 : r = r' := eq_of_eqN r r' (fun d => by
   cases d with
   | zero => trivial
   | succ d => exact (h (d + 1)).2.2)
  rw [h1, h2]
 | .nil, .cons .., h => (h 1).elim
 | .cons .., .nil, h => (h 1).elim
def Snd (D : Pl → F → Prop) (F0 G0 : F) (cl : Pl → Pl) (pend : List (F × F)) : Prop :=
 ∀ d, (∀ e ∈ pend, eqN d e.1 e.2) → eqN d F0 G0 ∧ ∀ x y f g, cl x = cl y → D x f → D y g → eqN d f g
theorem Snd.start (D : Pl → F → Prop) (hD : ∀ p f g, D p f → D p g → f = g) (F0 G0 : F) : Snd D F0 G0 (fun p => p) [(F0, G0)] := by
 intro d h
 refine ⟨h _ List.mem_cons_self, fun x y f g e hf hg => ?_⟩
 obtain rfl : x = y := e
 rw [hD x f g hf hg]
 exact eqN_refl d g
theorem Snd.join {D : Pl → F → Prop} {F0 G0 : F} {cl cl' : Pl → Pl} {pend pend' : List (F × F)} (h : Snd D F0 G0 cl pend) {x y : Pl} {f g : F} (hx : D x f) (hy : D y g) {b : Bool} (hj : JoinC b cl cl' x y)
  (hp : ∀ e ∈ pend, e ∈ pend') (hb : b = true → (f, g) ∈ pend') : Snd D F0 G0 cl' pend' := by
 intro d hh
 obtain ⟨h1, h2⟩ := h d (fun e he => hh e (hp e he))
 refine ⟨h1, fun p q u v e hu hv => ?_⟩
 cases b with
 | false => exact h2 p q u v (hj.2.2 p q e) hu hv
 | true =>
  have hfg := hh _ (hb rfl)
  rcases hj.2.2 p q e with e | ⟨e1, e2⟩ | ⟨e1, e2⟩
  ·exact h2 p q u v e hu hv
  ·exact eqN_trans d u f v (h2 p x u f e1 hu hx) (eqN_trans d f g v hfg (h2 y q g v e2.symm hy hv))
  ·exact eqN_trans d u g v (h2 p y u g e1 hu hy) (eqN_trans d g f v (eqN_symm d f g hfg) (h2 x q f v e2.symm hx hv))
def SameK (D : Pl → F → Prop) (cl : Pl → Pl) (l l' : F) : Prop := (l = .nil ∧ l' = .nil) ∨ ∃ x y, D x l ∧ D y l' ∧ cl x = cl y
def Pre (D : Pl → F → Prop) (cl : Pl → Pl) : F → F → Prop := eqK (SameK D cl)
theorem Pre.coarse {D : Pl → F → Prop} {cl cl' : Pl → Pl} (h : ∀ p q, cl p = cl q → cl' p = cl' q) {f g : F} (hp : Pre D cl f g) : Pre D cl' f g :=
 eqK_mono (fun l l' hk => by
  rcases hk with hk | ⟨x, y, h1, h2, h3⟩
  ·exact .inl hk
  ·exact .inr ⟨x, y, h1, h2, h _ _ h3⟩) f g hp
theorem eqK_snoc {K : F → F → Prop} {k n : Int} {s : ByteArray} {l l' : F} (hl : K l l') : ∀ f g, eqK K f g → eqK K (f.app (.cons k n s l .nil)) (g.app (.cons k n s l' .nil))
 | .nil, .nil, _ => ⟨⟨rfl, rfl, rfl⟩, hl, trivial⟩
 | .cons _ _ _ _ r, .cons _ _ _ _ r', h => ⟨h.1, h.2.1, eqK_snoc hl r r' h.2.2⟩
 | .nil, .cons .., h => h.elim
 | .cons .., .nil, h => h.elim
theorem Snd.drop {D : Pl → F → Prop} {F0 G0 : F} {cl : Pl → Pl} {pend pend' : List (F × F)} (h : Snd D F0 G0 cl pend') {f g : F} (hp : Pre D cl f g) (hs : ∀ e ∈ pend', e ∈ pend ∨ e = (f, g)) : Snd D F0 G0 cl pend := by
 have key : ∀ d, (∀ e ∈ pend, eqN d e.1 e.2) → eqN d f g := by
  intro d
  induction d with
  | zero => intro _; trivial
  | succ d ih =>
   intro hh
   have h0 := ih (fun e he => eqN_less d _ _ (hh e he))
   have h1 := h d (fun e he => by
    rcases hs e he with he | rfl
    ·exact eqN_less d _ _ (hh e he)
    ·exact h0)
   exact eqK_mono (fun l l' hk => by
    rcases hk with ⟨rfl, rfl⟩ | ⟨x, y, a, b, c⟩
    ·exact eqN_refl d _
    ·exact h1.2 x y l l' c a b) f g hp
 intro d hh
 refine h d (fun e he => ?_)
 rcases hs e he with he | rfl
 ·exact hh e he
 ·exact key d hh
theorem Snd.done {D : Pl → F → Prop} {F0 G0 : F} {cl : Pl → Pl} (h : Snd D F0 G0 cl []) : F0 = G0 :=
 eq_of_eqN F0 G0 (fun d => (h d (fun _ he => by cases he)).1)
theorem RepA.same {w : World} {A : Nat → Prop} : ∀ (f g : F) (b o : Nat), RepA w A b o f → RepA w A b o g → f.len = g.len → f = g
 | .nil, .nil, _, _, _, _, _ => rfl
 | .nil, .cons .., _, _, _, _, h => by simp [F.len] at h
 | .cons .., .nil, _, _, _, _, h => by simp [F.len] at h
 | .cons k n s l r, .cons k' n' s' l' r', b, o, h, h', hl => by
  obtain ⟨_, h0, h1, h2, ⟨ad, cap, h3, h4⟩, h5⟩ := h
  obtain ⟨_, g0, g1, g2, ⟨ad', cap', g3, g4⟩, g5⟩ := h'
  rw [h0] at g0
  rw [h1] at g1
  rw [h2] at g2
  rw [h3] at g3
  simp only [Option.some.injEq, Value.int.injEq, Value.string.injEq, Value.slice.injEq, true_and] at g0 g1 g2 g3
  obtain ⟨rfl, hll, rfl⟩ := g3
  have e1 : l = l' := by
   rcases h4 with rfl | ⟨b1, o1, e, h4⟩
   ·rcases g4 with rfl | ⟨b2, o2, e2, g4⟩
    ·rfl
    ·cases l' with
     | nil => rfl
     | cons => simp [F.len] at hll
   ·rcases g4 with rfl | ⟨b2, o2, e2, g4⟩
    ·cases l with
     | nil => rfl
     | cons => simp [F.len] at hll
    ·rw [e] at e2
     simp only [Option.some.injEq, Addr.mk.injEq, and_true] at e2
     obtain ⟨rfl, rfl⟩ := e2
     exact RepA.same l l' _ _ h4 g4 hll
  have e2 : r = r' := RepA.same r r' _ _ h5 g5 (by simp only [F.len] at hl; omega)
  rw [g0, g1, g2, e1, e2]
end Go.Proofs.YtlpgphiccjkenaaGreatDoor
