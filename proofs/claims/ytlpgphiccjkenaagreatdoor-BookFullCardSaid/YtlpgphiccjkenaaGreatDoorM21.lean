/-
 Contracts of the program, and what they rest on.
-/
import Derived.Test.YtlpgphiccjkenaaGreatDoorTk
import Derived.Test.YtlpgphiccjkenaaGreatDoorM14
import Derived.Test.YtlpgphiccjkenaaGreatDoorM08
set_option maxRecDepth 100000
set_option maxHeartbeats 16000000
namespace Go.Proofs.YtlpgphiccjkenaaGreatDoor
open Go.RowKit
theorem RepX.cons4 {w : World} {A : Nat → Prop} {k n : Int} {s : ByteArray} {l r : F} {ad : Option Addr} {cap N : Nat} {xs : List Value} (hN : l.len = N) (hg : RepG w A ad l) (h : RepX w A xs r) : RepX w A (.int .i64 k :: .int .i64 n :: .string s :: .slice ad N cap :: xs) (.cons k n s l r) := by
 subst hN
 exact ⟨ad, cap, xs, rfl, hg, h⟩
theorem num_ans (n : Int) (w : World) : Calls Tryz.prog 104 #[.int .i64 n] w (VAns (b4num n) w) := (bnum_p n w).mono fun _ _ ⟨he, hb⟩ => ⟨hb, none, 0, he, .inl rfl⟩
theorem ints_at {w : World} {b : Nat} {s : Bk} {q u v : Value} (h : w.cell? ⟨b, 0, none⟩ = some q ∧ w.cell? ⟨b, 1, none⟩ = some u ∧ w.cell? ⟨b, 2, none⟩ = some v ∧ w.cell? ⟨b, 3, none⟩ = some (.int .i64 s.l1) ∧ w.cell? ⟨b, 4, none⟩ = some (.int .i64 s.l2) ∧ w.cell? ⟨b, 5, none⟩ = some (.int .i64 s.l3) ∧ w.cell? ⟨b, 6, none⟩ = some (.int .i64 s.l4) ∧ w.cell? ⟨b, 7, none⟩ = some (.int .i64 s.l5)) : IsAt w (.slice (some ⟨b, 3, none⟩) 5 5) (lowL s) := by
 obtain ⟨h0, _, _, h3, h4, h5, h6, h7⟩ := h
 refine ⟨b, 3, 5, rfl, World.block_lt_of_cell? w _ h0, fun j x hx => ?_⟩
 match j, hx with
 | 0, hx => simp [lowL] at hx; subst hx; exact h3
 | 1, hx => simp [lowL] at hx; subst hx; exact h4
 | 2, hx => simp [lowL] at hx; subst hx; exact h5
 | 3, hx => simp [lowL] at hx; subst hx; exact h6
 | 4, hx => simp [lowL] at hx; subst hx; exact h7
 | j + 5, hx => simp [lowL] at hx
theorem verval_p (v : Ve) (w : World) :
  Calls Tryz.prog 147 #[.agg #[.int .i64 v.ver, .bool v.gone, .string v.body]] w (VAns (b4ver v) w) := by
 obtain ⟨ver, gone, body⟩ := v
 unfold b4ver
 dsimp only
 have HB : Hid (Below w.heap.size w ((w.alloc (.cells #[.int .i64 ver, .bool gone, .string body] 55)).alloc (.cells #[.int .i64 0, .int .i64 0, .string ⟨#[]⟩, .slice none 0 0] 88))) := Lib.hid (((Below.refl _ _).alloc (Nat.le_refl _) _).alloc (by simp) _)
 have HS0 : Hid (∀ W, W = ((w.alloc (.cells #[.int .i64 ver, .bool gone, .string body] 55)).alloc (.cells #[.int .i64 0, .int .i64 0, .string ⟨#[]⟩, .slice none 0 0] 88)) → (W.cell? ⟨w.heap.size, 0, none⟩ = some (.int .i64 ver) ∧ W.cell? ⟨w.heap.size, 2, none⟩ = some (.string body)) ∧ VC W (w.heap.size + 1) 0 0 ⟨#[]⟩ none 0 0 ∧ w.heap.size + 2 ≤ W.heap.size) := Lib.hid (by
  rintro _ rfl
  refine ⟨⟨?_, ?_⟩, ⟨⟨?_, ?_, ?_, ?_⟩, ?_, ?_, ?_, ?_⟩, by simp⟩ <;> go_simp)
 go_enter Tryz.func147, Tryz.ntmps147
 cases gone
 case false =>
  go_wp2_with fail
  generalize ((w.alloc (.cells #[.int .i64 ver, .bool false, .string body] 55)).alloc (.cells #[.int .i64 0, .int .i64 0, .string ⟨#[]⟩, .slice none 0 0] 88)) = W at *
  obtain ⟨hc, hv, hsz⟩ := HS0.out W rfl
  have HS : Hid (∀ W', Below W.heap.size W W' → W'.cell? ⟨w.heap.size, 0, none⟩ = some (.int .i64 ver) ∧ W'.cell? ⟨w.heap.size, 2, none⟩ = some (.string body)) := Lib.hid (fun W' hW => by
   obtain ⟨s0, s1⟩ := hc
   exact ⟨cell_kept hW (Nat.le_refl _) s0, cell_kept hW (Nat.le_refl _) s1⟩)
  have HV := Lib.hid hv
  clear hc hv HS0
  have hS0 := HS.out _ (Below.refl W.heap.size W).drew
  refine wp_region_last (S := fun W' => W'.cell? ⟨w.heap.size, 0, none⟩ = some (.int .i64 ver) ∧ W'.cell? ⟨w.heap.size, 2, none⟩ = some (.string body)) (by kernel_rfl) (ops := List.toArray [_, _, _, _, _, _, _, _, _, _]) (o := _) rfl (by kernel_rfl) ?_
  refine tk 0 (.pointer (some ⟨w.heap.size, 0, none⟩)) rfl ?_ hS0 ?_
  ·intro w' ⟨s0, s1⟩; go_simp
  refine tk 1 (.int .i64 ver) rfl ?_ hS0 ?_
  ·intro w' ⟨s0, s1⟩; go_simp
  refine tk 3 (.int .i64 0) rfl ?_ hS0 ?_
  ·intro w' ⟨s0, s1⟩; go_simp
  refine tk 5 (.pointer (some ⟨w.heap.size, 2, none⟩)) rfl ?_ hS0 ?_
  ·intro w' ⟨s0, s1⟩; go_simp
  refine tk 6 (.string body) rfl ?_ hS0 ?_
  ·intro w' ⟨s0, s1⟩; go_simp
  simp only [List.getElem_toArray, List.getElem_cons_succ, List.getElem_cons_zero, Act.put, List.setIfInBounds_toArray, List.set_cons_zero, List.set_cons_succ]
  have HX0 := Lib.hid (Below.refl W.heap.size W).drew
  clear hS0
  refine wpAnyH_ready (rs := [2]) (by kernel_rfl) (by simp) ?_
  refine AllReadyH.cons rfl (fun K hK => ?_) AllReadyH.nil
  simp only [List.getElem_toArray, List.getElem_cons_succ, List.getElem_cons_zero]
  go_simp
  refine (bnum_p ver _).mono ?_
  rintro _ y1 ⟨rfl, hy⟩
  have HX1 := Lib.hid (HX0.out.trans (hy.mono HX0.out.size))
  clear hy
  refine hK.out _ _ (HS.out _ HX1.out) (fun _ => ?_)
  clear hK
  refine wpAnyH_ready (rs := [4]) (by kernel_rfl) (by simp) ?_
  refine AllReadyH.cons rfl (fun K hK => ?_) AllReadyH.nil
  simp only [List.getElem_toArray, List.getElem_cons_succ, List.getElem_cons_zero]
  go_simp
  refine (bnum_p 0 _).mono ?_
  rintro _ y2 ⟨rfl, hy⟩
  have HX2 := Lib.hid (HX1.out.trans (hy.mono HX1.out.size))
  clear hy
  refine hK.out _ _ (HS.out _ HX2.out) (fun _ => ?_)
  clear hK
  refine wpAnyH_ready (rs := [7]) (by kernel_rfl) (by simp) ?_
  refine AllReadyH.cons rfl (fun K hK => ?_) AllReadyH.nil
  simp only [List.getElem_toArray, List.getElem_cons_succ, List.getElem_cons_zero]
  go_simp
  refine (bstr_p body _).mono ?_
  rintro _ y3 ⟨rfl, hy⟩
  have HX3 := Lib.hid (HX2.out.trans (hy.mono HX2.out.size))
  clear hy
  refine hK.out _ _ (HS.out _ HX3.out) (fun _ => ?_)
  clear hK
  refine wpAnyH_ready (rs := [8]) (by kernel_rfl) (by simp) ?_
  refine AllReadyH.cons rfl (fun K hK => ?_) AllReadyH.nil
  simp only [List.getElem_toArray, List.getElem_cons_succ, List.getElem_cons_zero]
  go_simp
  have hx := HX3.out.alloc HX3.out.size (.cells #[.int .i64 1, .int .i64 ver, .string ⟨#[]⟩, .slice none 0 0, .int .i64 1, .int .i64 0, .string ⟨#[]⟩, .slice none 0 0, .int .i64 2, .int .i64 0, .string body, .slice none 0 0] 88)
  have hg : RepG (y3.alloc (.cells #[.int .i64 1, .int .i64 ver, .string ⟨#[]⟩, .slice none 0 0, .int .i64 1, .int .i64 0, .string ⟨#[]⟩, .slice none 0 0, .int .i64 2, .int .i64 0, .string body, .slice none 0 0] 88)) (fun b => w.heap.size + 2 ≤ b) (some ⟨y3.heap.size, 0, none⟩) (F.ofL [b4num ver, b4num 0, b4str body]) := by
   refine new_rep (A := fun b => w.heap.size + 2 ≤ b) 88 (show RepX y3 (fun b => w.heap.size + 2 ≤ b) [.int .i64 1, .int .i64 ver, .string ⟨#[]⟩, .slice none 0 0, .int .i64 1, .int .i64 0, .string ⟨#[]⟩, .slice none 0 0, .int .i64 2, .int .i64 0, .string body, .slice none 0 0] _ from ?_) (fun b h _ => h) (by have := HX3.out.size; omega)
   exact (RepX.cons4 rfl (.inl rfl) (RepX.cons4 rfl (.inl rfl) (RepX.cons4 rfl (.inl rfl) rfl)))
  refine hK.out _ _ (HS.out _ hx) (fun _ => ?_)
  clear hK
  have HY := Lib.hid HX3.out.size
  generalize y3.alloc _ = y9 at *
  have HG9 := Lib.hid hg
  have HX9 := Lib.hid hx
  clear hg hx
  refine wpAnyH_ready (rs := [9]) (by kernel_rfl) (by simp) ?_
  refine AllReadyH.cons rfl (fun K hK => ?_) AllReadyH.nil
  simp only [List.getElem_toArray, List.getElem_cons_succ, List.getElem_cons_zero]
  go_simp
  refine (blist_p (some ⟨y3.heap.size, 0, none⟩) 3 3 _).mono ?_
  rintro _ y10 ⟨rfl, hy⟩
  have HX10 := Lib.hid (HX9.out.trans (hy.mono HX9.out.size))
  have HG10 := Lib.hid (show RepG y10 (fun b => w.heap.size + 2 ≤ b) (some ⟨y3.heap.size, 0, none⟩) (F.ofL [b4num ver, b4num 0, b4str body]) from HG9.out.to (fun b hb hl => ⟨hb, hy.block b hl⟩))
  clear hy
  refine hK.out _ _ (HS.out _ HX10.out) (fun _ => ?_)
  clear hK
  refine wpAnyH_done (by kernel_rfl) ?_ _
  obtain ⟨⟨v0, v1, v2, v3⟩, f0, f1, f2, f3⟩ := HV.out.below HX10.out
  rw [Exit.then]
  rw [if_pos (by rfl)]
  go_simp
  go_wp2_with fail
  have hC := (HV.out.below HX10.out).put 3 0 ⟨#[]⟩ (some ⟨y3.heap.size, 0, none⟩) 3 3
  have hA := VAns.store (k := 3) (n := 0) (s := ⟨#[]⟩) (cap := 3) (N := 3) (HB.out.trans (HX10.out.mono HB.out.size)) HG10.out (w.heap.size + 1) (fun j hj => ⟨by omega, by omega⟩) (by omega) rfl
  obtain ⟨⟨t0, t1, t2, t3⟩, _⟩ := hC
  exact bodyPost_ret (v := .agg #[.int .i64 3, .int .i64 0, .string ⟨#[]⟩, .slice (some ⟨y3.heap.size, 0, none⟩) 3 3]) (by simp [results, Tryz.results147, go_sem, t0, t1, t2, t3]) rfl hA
 case true =>
  go_wp2_with fail
  generalize ((w.alloc (.cells #[.int .i64 ver, .bool true, .string body] 55)).alloc (.cells #[.int .i64 0, .int .i64 0, .string ⟨#[]⟩, .slice none 0 0] 88)) = W at *
  obtain ⟨hc, hv, hsz⟩ := HS0.out W rfl
  have HS : Hid (∀ W', Below W.heap.size W W' → W'.cell? ⟨w.heap.size, 0, none⟩ = some (.int .i64 ver) ∧ W'.cell? ⟨w.heap.size, 2, none⟩ = some (.string body)) := Lib.hid (fun W' hW => by
   obtain ⟨s0, s1⟩ := hc
   exact ⟨cell_kept hW (Nat.le_refl _) s0, cell_kept hW (Nat.le_refl _) s1⟩)
  have HV := Lib.hid hv
  clear hc hv HS0
  have hS0 := HS.out _ (Below.refl W.heap.size W).drew
  refine wp_region_last (S := fun W' => W'.cell? ⟨w.heap.size, 0, none⟩ = some (.int .i64 ver) ∧ W'.cell? ⟨w.heap.size, 2, none⟩ = some (.string body)) (by kernel_rfl) (ops := List.toArray [_, _, _, _, _, _, _, _, _, _]) (o := _) rfl (by kernel_rfl) ?_
  refine tk 0 (.pointer (some ⟨w.heap.size, 0, none⟩)) rfl ?_ hS0 ?_
  ·intro w' ⟨s0, s1⟩; go_simp
  refine tk 1 (.int .i64 ver) rfl ?_ hS0 ?_
  ·intro w' ⟨s0, s1⟩; go_simp
  refine tk 3 (.int .i64 1) rfl ?_ hS0 ?_
  ·intro w' ⟨s0, s1⟩; go_simp
  refine tk 5 (.pointer (some ⟨w.heap.size, 2, none⟩)) rfl ?_ hS0 ?_
  ·intro w' ⟨s0, s1⟩; go_simp
  refine tk 6 (.string body) rfl ?_ hS0 ?_
  ·intro w' ⟨s0, s1⟩; go_simp
  simp only [List.getElem_toArray, List.getElem_cons_succ, List.getElem_cons_zero, Act.put, List.setIfInBounds_toArray, List.set_cons_zero, List.set_cons_succ]
  have HX0 := Lib.hid (Below.refl W.heap.size W).drew
  clear hS0
  refine wpAnyH_ready (rs := [2]) (by kernel_rfl) (by simp) ?_
  refine AllReadyH.cons rfl (fun K hK => ?_) AllReadyH.nil
  simp only [List.getElem_toArray, List.getElem_cons_succ, List.getElem_cons_zero]
  go_simp
  refine (bnum_p ver _).mono ?_
  rintro _ y1 ⟨rfl, hy⟩
  have HX1 := Lib.hid (HX0.out.trans (hy.mono HX0.out.size))
  clear hy
  refine hK.out _ _ (HS.out _ HX1.out) (fun _ => ?_)
  clear hK
  refine wpAnyH_ready (rs := [4]) (by kernel_rfl) (by simp) ?_
  refine AllReadyH.cons rfl (fun K hK => ?_) AllReadyH.nil
  simp only [List.getElem_toArray, List.getElem_cons_succ, List.getElem_cons_zero]
  go_simp
  refine (bnum_p 1 _).mono ?_
  rintro _ y2 ⟨rfl, hy⟩
  have HX2 := Lib.hid (HX1.out.trans (hy.mono HX1.out.size))
  clear hy
  refine hK.out _ _ (HS.out _ HX2.out) (fun _ => ?_)
  clear hK
  refine wpAnyH_ready (rs := [7]) (by kernel_rfl) (by simp) ?_
  refine AllReadyH.cons rfl (fun K hK => ?_) AllReadyH.nil
  simp only [List.getElem_toArray, List.getElem_cons_succ, List.getElem_cons_zero]
  go_simp
  refine (bstr_p body _).mono ?_
  rintro _ y3 ⟨rfl, hy⟩
  have HX3 := Lib.hid (HX2.out.trans (hy.mono HX2.out.size))
  clear hy
  refine hK.out _ _ (HS.out _ HX3.out) (fun _ => ?_)
  clear hK
  refine wpAnyH_ready (rs := [8]) (by kernel_rfl) (by simp) ?_
  refine AllReadyH.cons rfl (fun K hK => ?_) AllReadyH.nil
  simp only [List.getElem_toArray, List.getElem_cons_succ, List.getElem_cons_zero]
  go_simp
  have hx := HX3.out.alloc HX3.out.size (.cells #[.int .i64 1, .int .i64 ver, .string ⟨#[]⟩, .slice none 0 0, .int .i64 1, .int .i64 1, .string ⟨#[]⟩, .slice none 0 0, .int .i64 2, .int .i64 0, .string body, .slice none 0 0] 88)
  have hg : RepG (y3.alloc (.cells #[.int .i64 1, .int .i64 ver, .string ⟨#[]⟩, .slice none 0 0, .int .i64 1, .int .i64 1, .string ⟨#[]⟩, .slice none 0 0, .int .i64 2, .int .i64 0, .string body, .slice none 0 0] 88)) (fun b => w.heap.size + 2 ≤ b) (some ⟨y3.heap.size, 0, none⟩) (F.ofL [b4num ver, b4num 1, b4str body]) := by
   refine new_rep (A := fun b => w.heap.size + 2 ≤ b) 88 (show RepX y3 (fun b => w.heap.size + 2 ≤ b) [.int .i64 1, .int .i64 ver, .string ⟨#[]⟩, .slice none 0 0, .int .i64 1, .int .i64 1, .string ⟨#[]⟩, .slice none 0 0, .int .i64 2, .int .i64 0, .string body, .slice none 0 0] _ from ?_) (fun b h _ => h) (by have := HX3.out.size; omega)
   exact (RepX.cons4 rfl (.inl rfl) (RepX.cons4 rfl (.inl rfl) (RepX.cons4 rfl (.inl rfl) rfl)))
  refine hK.out _ _ (HS.out _ hx) (fun _ => ?_)
  clear hK
  have HY := Lib.hid HX3.out.size
  generalize y3.alloc _ = y9 at *
  have HG9 := Lib.hid hg
  have HX9 := Lib.hid hx
  clear hg hx
  refine wpAnyH_ready (rs := [9]) (by kernel_rfl) (by simp) ?_
  refine AllReadyH.cons rfl (fun K hK => ?_) AllReadyH.nil
  simp only [List.getElem_toArray, List.getElem_cons_succ, List.getElem_cons_zero]
  go_simp
  refine (blist_p (some ⟨y3.heap.size, 0, none⟩) 3 3 _).mono ?_
  rintro _ y10 ⟨rfl, hy⟩
  have HX10 := Lib.hid (HX9.out.trans (hy.mono HX9.out.size))
  have HG10 := Lib.hid (show RepG y10 (fun b => w.heap.size + 2 ≤ b) (some ⟨y3.heap.size, 0, none⟩) (F.ofL [b4num ver, b4num 1, b4str body]) from HG9.out.to (fun b hb hl => ⟨hb, hy.block b hl⟩))
  clear hy
  refine hK.out _ _ (HS.out _ HX10.out) (fun _ => ?_)
  clear hK
  refine wpAnyH_done (by kernel_rfl) ?_ _
  obtain ⟨⟨v0, v1, v2, v3⟩, f0, f1, f2, f3⟩ := HV.out.below HX10.out
  rw [Exit.then]
  rw [if_pos (by rfl)]
  go_simp
  go_wp2_with fail
  have hC := (HV.out.below HX10.out).put 3 0 ⟨#[]⟩ (some ⟨y3.heap.size, 0, none⟩) 3 3
  have hA := VAns.store (k := 3) (n := 0) (s := ⟨#[]⟩) (cap := 3) (N := 3) (HB.out.trans (HX10.out.mono HB.out.size)) HG10.out (w.heap.size + 1) (fun j hj => ⟨by omega, by omega⟩) (by omega) rfl
  obtain ⟨⟨t0, t1, t2, t3⟩, _⟩ := hC
  exact bodyPost_ret (v := .agg #[.int .i64 3, .int .i64 0, .string ⟨#[]⟩, .slice (some ⟨y3.heap.size, 0, none⟩) 3 3]) (by simp [results, Tryz.results147, go_sem, t0, t1, t2, t3]) rfl hA
theorem memval_p (m : Me) (w : World) :
  Calls Tryz.prog 108 #[.agg #[.int .i64 m.req, .int .i64 m.res.err, .int .i64 m.res.ver]] w (VAns (b4mem m) w) := by
 obtain ⟨req, er, ver⟩ := m
 unfold b4mem
 dsimp only
 have HB : Hid (Below w.heap.size w ((w.alloc (.cells #[.int .i64 req, .int .i64 er, .int .i64 ver] 76)).alloc (.cells #[.int .i64 0, .int .i64 0, .string ⟨#[]⟩, .slice none 0 0] 88))) := Lib.hid (((Below.refl _ _).alloc (Nat.le_refl _) _).alloc (by simp) _)
 have HS0 : Hid (∀ W, W = ((w.alloc (.cells #[.int .i64 req, .int .i64 er, .int .i64 ver] 76)).alloc (.cells #[.int .i64 0, .int .i64 0, .string ⟨#[]⟩, .slice none 0 0] 88)) → (W.cell? ⟨w.heap.size, 0, none⟩ = some (.int .i64 req) ∧ W.cell? ⟨w.heap.size, 1, none⟩ = some (.int .i64 er) ∧ W.cell? ⟨w.heap.size, 2, none⟩ = some (.int .i64 ver)) ∧ VC W (w.heap.size + 1) 0 0 ⟨#[]⟩ none 0 0 ∧ w.heap.size + 2 ≤ W.heap.size) := Lib.hid (by
  rintro _ rfl
  refine ⟨⟨?_, ?_, ?_⟩, ⟨⟨?_, ?_, ?_, ?_⟩, ?_, ?_, ?_, ?_⟩, by simp⟩ <;> go_simp)
 go_enter Tryz.func108, Tryz.ntmps108
 go_wp2_with fail
 generalize ((w.alloc (.cells #[.int .i64 req, .int .i64 er, .int .i64 ver] 76)).alloc (.cells #[.int .i64 0, .int .i64 0, .string ⟨#[]⟩, .slice none 0 0] 88)) = W at *
 obtain ⟨hc, hv, hsz⟩ := HS0.out W rfl
 have HS : Hid (∀ W', Below W.heap.size W W' → W'.cell? ⟨w.heap.size, 0, none⟩ = some (.int .i64 req) ∧ W'.cell? ⟨w.heap.size, 1, none⟩ = some (.int .i64 er) ∧ W'.cell? ⟨w.heap.size, 2, none⟩ = some (.int .i64 ver)) := Lib.hid (fun W' hW => by
  obtain ⟨s0, s1, s2⟩ := hc
  exact ⟨cell_kept hW (Nat.le_refl _) s0, cell_kept hW (Nat.le_refl _) s1, cell_kept hW (Nat.le_refl _) s2⟩)
 have HV := Lib.hid hv
 clear hc hv HS0
 have hS0 := HS.out _ (Below.refl W.heap.size W).drew
 refine wp_region_last (S := fun W' => W'.cell? ⟨w.heap.size, 0, none⟩ = some (.int .i64 req) ∧ W'.cell? ⟨w.heap.size, 1, none⟩ = some (.int .i64 er) ∧ W'.cell? ⟨w.heap.size, 2, none⟩ = some (.int .i64 ver)) (by kernel_rfl) (ops := List.toArray [_, _, _, _, _, _, _, _, _, _, _, _, _]) (o := _) rfl (by kernel_rfl) ?_
 refine tk 0 (.pointer (some ⟨w.heap.size, 0, none⟩)) rfl ?_ hS0 ?_
 ·intro w' ⟨s0, s1, s2⟩; go_simp
 refine tk 1 (.int .i64 req) rfl ?_ hS0 ?_
 ·intro w' ⟨s0, s1, s2⟩; go_simp
 refine tk 3 (.pointer (some ⟨w.heap.size, 1, none⟩)) rfl ?_ hS0 ?_
 ·intro w' ⟨s0, s1, s2⟩; go_simp
 refine tk 4 (.pointer (some ⟨w.heap.size, 1, none⟩)) rfl ?_ hS0 ?_
 ·intro w' ⟨s0, s1, s2⟩; go_simp
 refine tk 5 (.int .i64 er) rfl ?_ hS0 ?_
 ·intro w' ⟨s0, s1, s2⟩; go_simp
 refine tk 7 (.pointer (some ⟨w.heap.size, 1, none⟩)) rfl ?_ hS0 ?_
 ·intro w' ⟨s0, s1, s2⟩; go_simp
 refine tk 8 (.pointer (some ⟨w.heap.size, 2, none⟩)) rfl ?_ hS0 ?_
 ·intro w' ⟨s0, s1, s2⟩; go_simp
 refine tk 9 (.int .i64 ver) rfl ?_ hS0 ?_
 ·intro w' ⟨s0, s1, s2⟩; go_simp
 simp only [List.getElem_toArray, List.getElem_cons_succ, List.getElem_cons_zero, Act.put, List.setIfInBounds_toArray, List.set_cons_zero, List.set_cons_succ]
 have HX0 := Lib.hid (Below.refl W.heap.size W).drew
 clear hS0
 refine wpAnyH_ready (rs := [2]) (by kernel_rfl) (by simp) ?_
 refine AllReadyH.cons rfl (fun K hK => ?_) AllReadyH.nil
 simp only [List.getElem_toArray, List.getElem_cons_succ, List.getElem_cons_zero]
 go_simp
 refine (bnum_p req _).mono ?_
 rintro _ y1 ⟨rfl, hy⟩
 have HX1 := Lib.hid (HX0.out.trans (hy.mono HX0.out.size))
 clear hy
 refine hK.out _ _ (HS.out _ HX1.out) (fun _ => ?_)
 clear hK
 refine wpAnyH_ready (rs := [6]) (by kernel_rfl) (by simp) ?_
 refine AllReadyH.cons rfl (fun K hK => ?_) AllReadyH.nil
 simp only [List.getElem_toArray, List.getElem_cons_succ, List.getElem_cons_zero]
 go_simp
 refine (bnum_p er _).mono ?_
 rintro _ y2 ⟨rfl, hy⟩
 have HX2 := Lib.hid (HX1.out.trans (hy.mono HX1.out.size))
 clear hy
 refine hK.out _ _ (HS.out _ HX2.out) (fun _ => ?_)
 clear hK
 refine wpAnyH_ready (rs := [10]) (by kernel_rfl) (by simp) ?_
 refine AllReadyH.cons rfl (fun K hK => ?_) AllReadyH.nil
 simp only [List.getElem_toArray, List.getElem_cons_succ, List.getElem_cons_zero]
 go_simp
 refine (bnum_p ver _).mono ?_
 rintro _ y3 ⟨rfl, hy⟩
 have HX3 := Lib.hid (HX2.out.trans (hy.mono HX2.out.size))
 clear hy
 refine hK.out _ _ (HS.out _ HX3.out) (fun _ => ?_)
 clear hK
 refine wpAnyH_ready (rs := [11]) (by kernel_rfl) (by simp) ?_
 refine AllReadyH.cons rfl (fun K hK => ?_) AllReadyH.nil
 simp only [List.getElem_toArray, List.getElem_cons_succ, List.getElem_cons_zero]
 go_simp
 have hx := HX3.out.alloc HX3.out.size (.cells #[.int .i64 1, .int .i64 req, .string ⟨#[]⟩, .slice none 0 0, .int .i64 1, .int .i64 er, .string ⟨#[]⟩, .slice none 0 0, .int .i64 1, .int .i64 ver, .string ⟨#[]⟩, .slice none 0 0] 88)
 have hg : RepG (y3.alloc (.cells #[.int .i64 1, .int .i64 req, .string ⟨#[]⟩, .slice none 0 0, .int .i64 1, .int .i64 er, .string ⟨#[]⟩, .slice none 0 0, .int .i64 1, .int .i64 ver, .string ⟨#[]⟩, .slice none 0 0] 88)) (fun b => w.heap.size + 2 ≤ b) (some ⟨y3.heap.size, 0, none⟩) (F.ofL [b4num req, b4num er, b4num ver]) := by
  refine new_rep (A := fun b => w.heap.size + 2 ≤ b) 88 (show RepX y3 (fun b => w.heap.size + 2 ≤ b) [.int .i64 1, .int .i64 req, .string ⟨#[]⟩, .slice none 0 0, .int .i64 1, .int .i64 er, .string ⟨#[]⟩, .slice none 0 0, .int .i64 1, .int .i64 ver, .string ⟨#[]⟩, .slice none 0 0] _ from ?_) (fun b h _ => h) (by have := HX3.out.size; omega)
  exact (RepX.cons4 rfl (.inl rfl) (RepX.cons4 rfl (.inl rfl) (RepX.cons4 rfl (.inl rfl) rfl)))
 refine hK.out _ _ (HS.out _ hx) (fun _ => ?_)
 clear hK
 have HY := Lib.hid HX3.out.size
 generalize y3.alloc _ = y9 at *
 have HG9 := Lib.hid hg
 have HX9 := Lib.hid hx
 clear hg hx
 refine wpAnyH_ready (rs := [12]) (by kernel_rfl) (by simp) ?_
 refine AllReadyH.cons rfl (fun K hK => ?_) AllReadyH.nil
 simp only [List.getElem_toArray, List.getElem_cons_succ, List.getElem_cons_zero]
 go_simp
 refine (blist_p (some ⟨y3.heap.size, 0, none⟩) 3 3 _).mono ?_
 rintro _ y10 ⟨rfl, hy⟩
 have HX10 := Lib.hid (HX9.out.trans (hy.mono HX9.out.size))
 have HG10 := Lib.hid (show RepG y10 (fun b => w.heap.size + 2 ≤ b) (some ⟨y3.heap.size, 0, none⟩) (F.ofL [b4num req, b4num er, b4num ver]) from HG9.out.to (fun b hb hl => ⟨hb, hy.block b hl⟩))
 clear hy
 refine hK.out _ _ (HS.out _ HX10.out) (fun _ => ?_)
 clear hK
 refine wpAnyH_done (by kernel_rfl) ?_ _
 obtain ⟨⟨v0, v1, v2, v3⟩, f0, f1, f2, f3⟩ := HV.out.below HX10.out
 rw [Exit.then]
 rw [if_pos (by rfl)]
 go_simp
 go_wp2_with fail
 have hC := (HV.out.below HX10.out).put 3 0 ⟨#[]⟩ (some ⟨y3.heap.size, 0, none⟩) 3 3
 have hA := VAns.store (k := 3) (n := 0) (s := ⟨#[]⟩) (cap := 3) (N := 3) (HB.out.trans (HX10.out.mono HB.out.size)) HG10.out (w.heap.size + 1) (fun j hj => ⟨by omega, by omega⟩) (by omega) rfl
 obtain ⟨⟨t0, t1, t2, t3⟩, _⟩ := hC
 exact bodyPost_ret (v := .agg #[.int .i64 3, .int .i64 0, .string ⟨#[]⟩, .slice (some ⟨y3.heap.size, 0, none⟩) 3 3]) (by simp [results, Tryz.results108, go_sem, t0, t1, t2, t3]) rfl hA
theorem entval_p (e : En) (a : Option Addr) (c : Nat) (w : World) (h : VsAt w (.slice a e.vs.length c) e.vs) (hn : e.vs.length ≤ 1000000) :
  Calls Tryz.prog 106 #[.agg #[.string e.key, .slice a e.vs.length c]] w (VAns (b4ent e) w) := by
 obtain ⟨key, vs⟩ := e
 unfold b4ent
 dsimp only at h hn ⊢
 have HVA := Lib.hid h
 obtain ⟨n, hN⟩ : ∃ n, vs.length = n := ⟨_, rfl⟩
 have HE := Lib.hid (fun W hW => veach_p (.slice a vs.length c) vs W hW hn (fun x W => verval_p x W))
 rw [hN] at HVA HE ⊢
 have HN := Lib.hid hN
 clear h hn hN
 have HB : Hid (Below w.heap.size w ((w.alloc (.cells #[.string key, .slice a n c] 45)).alloc (.cells #[.int .i64 0, .int .i64 0, .string ⟨#[]⟩, .slice none 0 0] 88))) := Lib.hid (((Below.refl _ _).alloc (Nat.le_refl _) _).alloc (by simp) _)
 have HS0 : Hid (∀ W, W = ((w.alloc (.cells #[.string key, .slice a n c] 45)).alloc (.cells #[.int .i64 0, .int .i64 0, .string ⟨#[]⟩, .slice none 0 0] 88)) → (W.cell? ⟨w.heap.size, 0, none⟩ = some (.string key) ∧ W.cell? ⟨w.heap.size, 1, none⟩ = some (.slice a n c)) ∧ VC W (w.heap.size + 1) 0 0 ⟨#[]⟩ none 0 0 ∧ w.heap.size + 2 ≤ W.heap.size) := Lib.hid (by
  rintro _ rfl
  refine ⟨⟨?_, ?_⟩, ⟨⟨?_, ?_, ?_, ?_⟩, ?_, ?_, ?_, ?_⟩, by simp⟩ <;> go_simp)
 go_enter Tryz.func106, Tryz.ntmps106
 go_wp2_with fail
 generalize ((w.alloc (.cells #[.string key, .slice a n c] 45)).alloc (.cells #[.int .i64 0, .int .i64 0, .string ⟨#[]⟩, .slice none 0 0] 88)) = W at *
 obtain ⟨hc, hv, hsz⟩ := HS0.out W rfl
 have HS : Hid (∀ W', Below W.heap.size W W' → W'.cell? ⟨w.heap.size, 0, none⟩ = some (.string key) ∧ W'.cell? ⟨w.heap.size, 1, none⟩ = some (.slice a n c)) := Lib.hid (fun W' hW => by
  obtain ⟨s0, s1⟩ := hc
  exact ⟨cell_kept hW (Nat.le_refl _) s0, cell_kept hW (Nat.le_refl _) s1⟩)
 have HV := Lib.hid hv
 clear hc hv HS0
 have hS0 := HS.out _ (Below.refl W.heap.size W).drew
 refine wp_region_last (S := fun W' => W'.cell? ⟨w.heap.size, 0, none⟩ = some (.string key) ∧ W'.cell? ⟨w.heap.size, 1, none⟩ = some (.slice a n c)) (by kernel_rfl) (ops := List.toArray [_, _, _, _, _, _, _, _]) (o := _) rfl (by kernel_rfl) ?_
 refine tk 0 (.pointer (some ⟨w.heap.size, 0, none⟩)) rfl ?_ hS0 ?_
 ·intro w' ⟨s0, s1⟩; go_simp
 refine tk 1 (.string key) rfl ?_ hS0 ?_
 ·intro w' ⟨s0, s1⟩; go_simp
 refine tk 3 (.pointer (some ⟨w.heap.size, 1, none⟩)) rfl ?_ hS0 ?_
 ·intro w' ⟨s0, s1⟩; go_simp
 refine tk 4 (.slice a n c) rfl ?_ hS0 ?_
 ·intro w' ⟨s0, s1⟩; go_simp
 simp only [List.getElem_toArray, List.getElem_cons_succ, List.getElem_cons_zero, Act.put, List.setIfInBounds_toArray, List.set_cons_zero, List.set_cons_succ]
 have HX0 := Lib.hid (Below.refl W.heap.size W).drew
 clear hS0
 refine wpAnyH_ready (rs := [2]) (by kernel_rfl) (by simp) ?_
 refine AllReadyH.cons rfl (fun K hK => ?_) AllReadyH.nil
 simp only [List.getElem_toArray, List.getElem_cons_succ, List.getElem_cons_zero]
 go_simp
 refine (bstr_p key _).mono ?_
 rintro _ y1 ⟨rfl, hy⟩
 have HX1 := Lib.hid (HX0.out.trans (hy.mono HX0.out.size))
 clear hy
 refine hK.out _ _ (HS.out _ HX1.out) (fun _ => ?_)
 clear hK
 refine wpAnyH_ready (rs := [5]) (by kernel_rfl) (by simp) ?_
 refine AllReadyH.cons rfl (fun K hK => ?_) AllReadyH.nil
 simp only [List.getElem_toArray, List.getElem_cons_succ, List.getElem_cons_zero]
 go_simp
 refine (HE.out _ (HVA.out.below (HB.out.trans (HX1.out.mono HB.out.size)))).mono ?_
 rintro _ y2 ⟨hy, a2, c2, rfl, hg⟩
 have HX2 := Lib.hid (HX1.out.trans (hy.mono HX1.out.size))
 have HG2 := Lib.hid (show RepG y2 (fun b => w.heap.size + 2 ≤ b) a2 (F.ofL (vs.map b4ver)) from hg.to (fun b hb _ => ⟨by have h1 := HX1.out.size; have h2 : _ ≤ b := hb; omega, rfl⟩))
 have hN : (F.ofL (vs.map b4ver)).len = n := by rw [F.ofL_len]; rw [List.length_map]; exact HN.out
 simp only [b4list, hN]
 clear hy hg hN
 refine hK.out _ _ (HS.out _ HX2.out) (fun _ => ?_)
 clear hK
 refine wpAnyH_ready (rs := [6]) (by kernel_rfl) (by simp) ?_
 refine AllReadyH.cons rfl (fun K hK => ?_) AllReadyH.nil
 simp only [List.getElem_toArray, List.getElem_cons_succ, List.getElem_cons_zero]
 go_simp
 have hx := HX2.out.alloc HX2.out.size (.cells #[.int .i64 2, .int .i64 0, .string key, .slice none 0 0, .int .i64 3, .int .i64 0, .string ⟨#[]⟩, .slice a2 n c2] 88)
 have hg : RepG (y2.alloc (.cells #[.int .i64 2, .int .i64 0, .string key, .slice none 0 0, .int .i64 3, .int .i64 0, .string ⟨#[]⟩, .slice a2 n c2] 88)) (fun b => w.heap.size + 2 ≤ b) (some ⟨y2.heap.size, 0, none⟩) (F.ofL [b4str key, b4list (vs.map b4ver)]) := by
  refine new_rep (A := fun b => w.heap.size + 2 ≤ b) 88 (show RepX y2 (fun b => w.heap.size + 2 ≤ b) [.int .i64 2, .int .i64 0, .string key, .slice none 0 0, .int .i64 3, .int .i64 0, .string ⟨#[]⟩, .slice a2 n c2] _ from ?_) (fun b h _ => h) (by have := HX2.out.size; omega)
  have hq2 : (F.ofL (vs.map b4ver)).len = n := by rw [F.ofL_len]; rw [List.length_map]; exact HN.out
  exact (RepX.cons4 rfl (.inl rfl) (RepX.cons4 hq2 HG2.out rfl))
 refine hK.out _ _ (HS.out _ hx) (fun _ => ?_)
 clear hK
 have HY := Lib.hid HX2.out.size
 generalize y2.alloc _ = y9 at *
 have HG9 := Lib.hid hg
 have HX9 := Lib.hid hx
 clear hg hx
 refine wpAnyH_ready (rs := [7]) (by kernel_rfl) (by simp) ?_
 refine AllReadyH.cons rfl (fun K hK => ?_) AllReadyH.nil
 simp only [List.getElem_toArray, List.getElem_cons_succ, List.getElem_cons_zero]
 go_simp
 refine (blist_p (some ⟨y2.heap.size, 0, none⟩) 2 2 _).mono ?_
 rintro _ y10 ⟨rfl, hy⟩
 have HX10 := Lib.hid (HX9.out.trans (hy.mono HX9.out.size))
 have HG10 := Lib.hid (show RepG y10 (fun b => w.heap.size + 2 ≤ b) (some ⟨y2.heap.size, 0, none⟩) (F.ofL [b4str key, b4list (vs.map b4ver)]) from HG9.out.to (fun b hb hl => ⟨hb, hy.block b hl⟩))
 clear hy
 refine hK.out _ _ (HS.out _ HX10.out) (fun _ => ?_)
 clear hK
 refine wpAnyH_done (by kernel_rfl) ?_ _
 obtain ⟨⟨v0, v1, v2, v3⟩, f0, f1, f2, f3⟩ := HV.out.below HX10.out
 rw [Exit.then]
 rw [if_pos (by rfl)]
 go_simp
 go_wp2_with fail
 have hC := (HV.out.below HX10.out).put 3 0 ⟨#[]⟩ (some ⟨y2.heap.size, 0, none⟩) 2 2
 have hA := VAns.store (k := 3) (n := 0) (s := ⟨#[]⟩) (cap := 2) (N := 2) (HB.out.trans (HX10.out.mono HB.out.size)) HG10.out (w.heap.size + 1) (fun j hj => ⟨by omega, by omega⟩) (by omega) rfl
 obtain ⟨⟨t0, t1, t2, t3⟩, _⟩ := hC
 exact bodyPost_ret (v := .agg #[.int .i64 3, .int .i64 0, .string ⟨#[]⟩, .slice (some ⟨y2.heap.size, 0, none⟩) 2 2]) (by simp [results, Tryz.results106, go_sem, t0, t1, t2, t3]) rfl hA
theorem bookval_p (s : Bk) (u v : Value) (w : World) (h : BAt w s u v) :
  Calls Tryz.prog 55 #[bagg s u v] w (VAns (b4book s) w) := by
 obtain ⟨ad, cap, rfl, _⟩ := h.es.shape
 obtain ⟨ad2, cap2, rfl, _⟩ := h.ms.shape
 obtain ⟨n, hN⟩ : ∃ n, s.l.length = n := ⟨_, rfl⟩
 obtain ⟨n2, hN2⟩ : ∃ n2, s.ms.length = n2 := ⟨_, rfl⟩
 have HE := Lib.hid (fun W hW => eeach_p (.slice ad s.l.length cap) s.l W hW h.short (fun x a c W hx hv => entval_p x a c W hv (h.shortV x hx)))
 have HM := Lib.hid (fun W hW => meach_p (.slice ad2 s.ms.length cap2) s.ms W hW h.shortM (fun x W => memval_p x W))
 have HI := Lib.hid (fun W hW => ieach_p (.slice (some ⟨w.heap.size, 3, none⟩) 5 5) (lowL s) W hW (show 5 ≤ 1000000 by decide) (fun x W => num_ans x W))
 have HES := Lib.hid h.es
 have HMS := Lib.hid h.ms
 rw [hN] at HE HES ⊢
 rw [hN2] at HM HMS ⊢
 have HN := Lib.hid hN
 have HN2 := Lib.hid hN2
 unfold bagg b4book
 clear h hN hN2
 have HB : Hid (Below w.heap.size w ((w.alloc (.cells #[.int .i64 s.seq, .slice ad n cap, .slice ad2 n2 cap2, .int .i64 s.l1, .int .i64 s.l2, .int .i64 s.l3, .int .i64 s.l4, .int .i64 s.l5] 27)).alloc (.cells #[.int .i64 0, .int .i64 0, .string ⟨#[]⟩, .slice none 0 0] 88))) := Lib.hid (((Below.refl _ _).alloc (Nat.le_refl _) _).alloc (by simp) _)
 have HS0 : Hid (∀ W, W = ((w.alloc (.cells #[.int .i64 s.seq, .slice ad n cap, .slice ad2 n2 cap2, .int .i64 s.l1, .int .i64 s.l2, .int .i64 s.l3, .int .i64 s.l4, .int .i64 s.l5] 27)).alloc (.cells #[.int .i64 0, .int .i64 0, .string ⟨#[]⟩, .slice none 0 0] 88)) → (W.cell? ⟨w.heap.size, 0, none⟩ = some (.int .i64 s.seq) ∧ W.cell? ⟨w.heap.size, 1, none⟩ = some (.slice ad n cap) ∧ W.cell? ⟨w.heap.size, 2, none⟩ = some (.slice ad2 n2 cap2) ∧ W.cell? ⟨w.heap.size, 3, none⟩ = some (.int .i64 s.l1) ∧ W.cell? ⟨w.heap.size, 4, none⟩ = some (.int .i64 s.l2) ∧ W.cell? ⟨w.heap.size, 5, none⟩ = some (.int .i64 s.l3) ∧ W.cell? ⟨w.heap.size, 6, none⟩ = some (.int .i64 s.l4) ∧ W.cell? ⟨w.heap.size, 7, none⟩ = some (.int .i64 s.l5)) ∧ VC W (w.heap.size + 1) 0 0 ⟨#[]⟩ none 0 0 ∧ w.heap.size + 2 ≤ W.heap.size) := Lib.hid (by
  rintro _ rfl
  refine ⟨⟨?_, ?_, ?_, ?_, ?_, ?_, ?_, ?_⟩, ⟨⟨?_, ?_, ?_, ?_⟩, ?_, ?_, ?_, ?_⟩, by simp⟩ <;> go_simp)
 go_enter Tryz.func55, Tryz.ntmps55
 go_wp2_with fail
 generalize ((w.alloc (.cells #[.int .i64 s.seq, .slice ad n cap, .slice ad2 n2 cap2, .int .i64 s.l1, .int .i64 s.l2, .int .i64 s.l3, .int .i64 s.l4, .int .i64 s.l5] 27)).alloc (.cells #[.int .i64 0, .int .i64 0, .string ⟨#[]⟩, .slice none 0 0] 88)) = W at *
 obtain ⟨hc, hv, hsz⟩ := HS0.out W rfl
 have HS : Hid (∀ W', Below W.heap.size W W' → W'.cell? ⟨w.heap.size, 0, none⟩ = some (.int .i64 s.seq) ∧ W'.cell? ⟨w.heap.size, 1, none⟩ = some (.slice ad n cap) ∧ W'.cell? ⟨w.heap.size, 2, none⟩ = some (.slice ad2 n2 cap2) ∧ W'.cell? ⟨w.heap.size, 3, none⟩ = some (.int .i64 s.l1) ∧ W'.cell? ⟨w.heap.size, 4, none⟩ = some (.int .i64 s.l2) ∧ W'.cell? ⟨w.heap.size, 5, none⟩ = some (.int .i64 s.l3) ∧ W'.cell? ⟨w.heap.size, 6, none⟩ = some (.int .i64 s.l4) ∧ W'.cell? ⟨w.heap.size, 7, none⟩ = some (.int .i64 s.l5)) := Lib.hid (fun W' hW => by
  obtain ⟨s0, s1, s2, s3, s4, s5, s6, s7⟩ := hc
  exact ⟨cell_kept hW (Nat.le_refl _) s0, cell_kept hW (Nat.le_refl _) s1, cell_kept hW (Nat.le_refl _) s2, cell_kept hW (Nat.le_refl _) s3, cell_kept hW (Nat.le_refl _) s4, cell_kept hW (Nat.le_refl _) s5, cell_kept hW (Nat.le_refl _) s6, cell_kept hW (Nat.le_refl _) s7⟩)
 have HV := Lib.hid hv
 clear hc hv HS0
 have hS0 := HS.out _ (Below.refl W.heap.size W).drew
 refine wp_region_last (S := fun W' => W'.cell? ⟨w.heap.size, 0, none⟩ = some (.int .i64 s.seq) ∧ W'.cell? ⟨w.heap.size, 1, none⟩ = some (.slice ad n cap) ∧ W'.cell? ⟨w.heap.size, 2, none⟩ = some (.slice ad2 n2 cap2) ∧ W'.cell? ⟨w.heap.size, 3, none⟩ = some (.int .i64 s.l1) ∧ W'.cell? ⟨w.heap.size, 4, none⟩ = some (.int .i64 s.l2) ∧ W'.cell? ⟨w.heap.size, 5, none⟩ = some (.int .i64 s.l3) ∧ W'.cell? ⟨w.heap.size, 6, none⟩ = some (.int .i64 s.l4) ∧ W'.cell? ⟨w.heap.size, 7, none⟩ = some (.int .i64 s.l5)) (by kernel_rfl) (ops := List.toArray [_, _, _, _, _, _, _, _, _, _, _, _, _, _]) (o := _) rfl (by kernel_rfl) ?_
 refine tk 0 (.pointer (some ⟨w.heap.size, 0, none⟩)) rfl ?_ hS0 ?_
 ·intro w' ⟨s0, s1, s2, s3, s4, s5, s6, s7⟩; go_simp
 refine tk 1 (.int .i64 s.seq) rfl ?_ hS0 ?_
 ·intro w' ⟨s0, s1, s2, s3, s4, s5, s6, s7⟩; go_simp
 refine tk 3 (.pointer (some ⟨w.heap.size, 1, none⟩)) rfl ?_ hS0 ?_
 ·intro w' ⟨s0, s1, s2, s3, s4, s5, s6, s7⟩; go_simp
 refine tk 4 (.slice ad n cap) rfl ?_ hS0 ?_
 ·intro w' ⟨s0, s1, s2, s3, s4, s5, s6, s7⟩; go_simp
 refine tk 6 (.pointer (some ⟨w.heap.size, 2, none⟩)) rfl ?_ hS0 ?_
 ·intro w' ⟨s0, s1, s2, s3, s4, s5, s6, s7⟩; go_simp
 refine tk 7 (.slice ad2 n2 cap2) rfl ?_ hS0 ?_
 ·intro w' ⟨s0, s1, s2, s3, s4, s5, s6, s7⟩; go_simp
 refine tk 9 (.pointer (some ⟨w.heap.size, 3, none⟩)) rfl ?_ hS0 ?_
 ·intro w' ⟨s0, s1, s2, s3, s4, s5, s6, s7⟩; go_simp
 refine tk 10 (.slice (some ⟨w.heap.size, 3, none⟩) 5 5) rfl ?_ hS0 ?_
 ·intro w' ⟨s0, s1, s2, s3, s4, s5, s6, s7⟩; go_simp
 simp only [List.getElem_toArray, List.getElem_cons_succ, List.getElem_cons_zero, Act.put, List.setIfInBounds_toArray, List.set_cons_zero, List.set_cons_succ]
 have HX0 := Lib.hid (Below.refl W.heap.size W).drew
 clear hS0
 refine wpAnyH_ready (rs := [2]) (by kernel_rfl) (by simp) ?_
 refine AllReadyH.cons rfl (fun K hK => ?_) AllReadyH.nil
 simp only [List.getElem_toArray, List.getElem_cons_succ, List.getElem_cons_zero]
 go_simp
 refine (bnum_p s.seq _).mono ?_
 rintro _ y1 ⟨rfl, hy⟩
 have HX1 := Lib.hid (HX0.out.trans (hy.mono HX0.out.size))
 clear hy
 refine hK.out _ _ (HS.out _ HX1.out) (fun _ => ?_)
 clear hK
 refine wpAnyH_ready (rs := [5]) (by kernel_rfl) (by simp) ?_
 refine AllReadyH.cons rfl (fun K hK => ?_) AllReadyH.nil
 simp only [List.getElem_toArray, List.getElem_cons_succ, List.getElem_cons_zero]
 go_simp
 refine (HE.out _ (HES.out.below (HB.out.trans (HX1.out.mono HB.out.size)))).mono ?_
 rintro _ y2 ⟨hy, a2, c2, rfl, hg⟩
 have HX2 := Lib.hid (HX1.out.trans (hy.mono HX1.out.size))
 have HG2 := Lib.hid (show RepG y2 (fun b => w.heap.size + 2 ≤ b) a2 (F.ofL (s.l.map b4ent)) from hg.to (fun b hb _ => ⟨by have h1 := HX1.out.size; have h2 : _ ≤ b := hb; omega, rfl⟩))
 have hN : (F.ofL (s.l.map b4ent)).len = n := by rw [F.ofL_len]; rw [List.length_map]; exact HN.out
 simp only [b4list, hN]
 clear hy hg hN
 refine hK.out _ _ (HS.out _ HX2.out) (fun _ => ?_)
 clear hK
 refine wpAnyH_ready (rs := [8]) (by kernel_rfl) (by simp) ?_
 refine AllReadyH.cons rfl (fun K hK => ?_) AllReadyH.nil
 simp only [List.getElem_toArray, List.getElem_cons_succ, List.getElem_cons_zero]
 go_simp
 refine (HM.out _ (HMS.out.below (HB.out.trans (HX2.out.mono HB.out.size)))).mono ?_
 rintro _ y3 ⟨hy, a3, c3, rfl, hg⟩
 have HX3 := Lib.hid (HX2.out.trans (hy.mono HX2.out.size))
 have HK2 : Hid (∀ b, b < y2.heap.size → y3.heap[b]? = y2.heap[b]?) := Lib.hid (fun b hb => hy.block b hb)
 have HKS2 : Hid (y2.heap.size ≤ y3.heap.size) := Lib.hid hy.size
 have HG3 := Lib.hid (show RepG y3 (fun b => w.heap.size + 2 ≤ b) a3 (F.ofL (s.ms.map b4mem)) from hg.to (fun b hb _ => ⟨by have h1 := HX2.out.size; have h2 : _ ≤ b := hb; omega, rfl⟩))
 have hN : (F.ofL (s.ms.map b4mem)).len = n2 := by rw [F.ofL_len]; rw [List.length_map]; exact HN2.out
 simp only [b4list, hN]
 clear hy hg hN
 refine hK.out _ _ (HS.out _ HX3.out) (fun _ => ?_)
 clear hK
 refine wpAnyH_ready (rs := [11]) (by kernel_rfl) (by simp) ?_
 refine AllReadyH.cons rfl (fun K hK => ?_) AllReadyH.nil
 simp only [List.getElem_toArray, List.getElem_cons_succ, List.getElem_cons_zero]
 go_simp
 refine (HI.out _ (ints_at (HS.out _ HX3.out))).mono ?_
 rintro _ y4 ⟨hy, a4, c4, rfl, hg⟩
 have HX4 := Lib.hid (HX3.out.trans (hy.mono HX3.out.size))
 have HK3 : Hid (∀ b, b < y3.heap.size → y4.heap[b]? = y3.heap[b]?) := Lib.hid (fun b hb => hy.block b hb)
 have HKS3 : Hid (y3.heap.size ≤ y4.heap.size) := Lib.hid hy.size
 have HK2n : Hid (∀ b, b < y2.heap.size → y4.heap[b]? = y2.heap[b]?) := Lib.hid (fun b hb => (hy.block b (Nat.lt_of_lt_of_le hb HKS2.out)).trans (HK2.out b hb))
 have HKS2n : Hid (y2.heap.size ≤ y4.heap.size) := Lib.hid (Nat.le_trans HKS2.out hy.size)
 clear HK2 HKS2
 have HK2 := HK2n
 have HKS2 := HKS2n
 clear HK2n HKS2n
 have HG4 := Lib.hid (show RepG y4 (fun b => w.heap.size + 2 ≤ b) a4 (F.ofL ((lowL s).map b4num)) from hg.to (fun b hb _ => ⟨by have h1 := HX3.out.size; have h2 : _ ≤ b := hb; omega, rfl⟩))
 have hN : (F.ofL ((lowL s).map b4num)).len = 5 := by rw [F.ofL_len]; rfl
 simp only [b4list, hN]
 clear hy hg hN
 refine hK.out _ _ (HS.out _ HX4.out) (fun _ => ?_)
 clear hK
 refine wpAnyH_ready (rs := [12]) (by kernel_rfl) (by simp) ?_
 refine AllReadyH.cons rfl (fun K hK => ?_) AllReadyH.nil
 simp only [List.getElem_toArray, List.getElem_cons_succ, List.getElem_cons_zero]
 go_simp
 have hx := HX4.out.alloc HX4.out.size (.cells #[.int .i64 1, .int .i64 s.seq, .string ⟨#[]⟩, .slice none 0 0, .int .i64 3, .int .i64 0, .string ⟨#[]⟩, .slice a2 n c2, .int .i64 3, .int .i64 0, .string ⟨#[]⟩, .slice a3 n2 c3, .int .i64 3, .int .i64 0, .string ⟨#[]⟩, .slice a4 5 c4] 88)
 have hg : RepG (y4.alloc (.cells #[.int .i64 1, .int .i64 s.seq, .string ⟨#[]⟩, .slice none 0 0, .int .i64 3, .int .i64 0, .string ⟨#[]⟩, .slice a2 n c2, .int .i64 3, .int .i64 0, .string ⟨#[]⟩, .slice a3 n2 c3, .int .i64 3, .int .i64 0, .string ⟨#[]⟩, .slice a4 5 c4] 88)) (fun b => w.heap.size + 2 ≤ b) (some ⟨y4.heap.size, 0, none⟩) (F.ofL [b4num s.seq, b4list (s.l.map b4ent), b4list (s.ms.map b4mem), b4list ((lowL s).map b4num)]) := by
  refine new_rep (A := fun b => w.heap.size + 2 ≤ b) 88 (show RepX y4 (fun b => w.heap.size + 2 ≤ b) [.int .i64 1, .int .i64 s.seq, .string ⟨#[]⟩, .slice none 0 0, .int .i64 3, .int .i64 0, .string ⟨#[]⟩, .slice a2 n c2, .int .i64 3, .int .i64 0, .string ⟨#[]⟩, .slice a3 n2 c3, .int .i64 3, .int .i64 0, .string ⟨#[]⟩, .slice a4 5 c4] _ from ?_) (fun b h _ => h) (by have := HX4.out.size; omega)
  have hq2 : (F.ofL (s.l.map b4ent)).len = n := by rw [F.ofL_len]; rw [List.length_map]; exact HN.out
  have hq3 : (F.ofL (s.ms.map b4mem)).len = n2 := by rw [F.ofL_len]; rw [List.length_map]; exact HN2.out
  have hq4 : (F.ofL ((lowL s).map b4num)).len = 5 := by rw [F.ofL_len]; rfl
  exact (RepX.cons4 rfl (.inl rfl) (RepX.cons4 hq2 (HG2.out.to (fun b hb hl => ⟨hb, HK2.out b hl⟩)) (RepX.cons4 hq3 (HG3.out.to (fun b hb hl => ⟨hb, HK3.out b hl⟩)) (RepX.cons4 hq4 HG4.out rfl))))
 refine hK.out _ _ (HS.out _ hx) (fun _ => ?_)
 clear hK
 have HY := Lib.hid HX4.out.size
 generalize y4.alloc _ = y9 at *
 have HG9 := Lib.hid hg
 have HX9 := Lib.hid hx
 clear hg hx
 refine wpAnyH_ready (rs := [13]) (by kernel_rfl) (by simp) ?_
 refine AllReadyH.cons rfl (fun K hK => ?_) AllReadyH.nil
 simp only [List.getElem_toArray, List.getElem_cons_succ, List.getElem_cons_zero]
 go_simp
 refine (blist_p (some ⟨y4.heap.size, 0, none⟩) 4 4 _).mono ?_
 rintro _ y10 ⟨rfl, hy⟩
 have HX10 := Lib.hid (HX9.out.trans (hy.mono HX9.out.size))
 have HG10 := Lib.hid (show RepG y10 (fun b => w.heap.size + 2 ≤ b) (some ⟨y4.heap.size, 0, none⟩) (F.ofL [b4num s.seq, b4list (s.l.map b4ent), b4list (s.ms.map b4mem), b4list ((lowL s).map b4num)]) from HG9.out.to (fun b hb hl => ⟨hb, hy.block b hl⟩))
 clear hy
 refine hK.out _ _ (HS.out _ HX10.out) (fun _ => ?_)
 clear hK
 refine wpAnyH_done (by kernel_rfl) ?_ _
 obtain ⟨⟨v0, v1, v2, v3⟩, f0, f1, f2, f3⟩ := HV.out.below HX10.out
 rw [Exit.then]
 rw [if_pos (by rfl)]
 go_simp
 go_wp2_with fail
 have hC := (HV.out.below HX10.out).put 3 0 ⟨#[]⟩ (some ⟨y4.heap.size, 0, none⟩) 4 4
 have hA := VAns.store (k := 3) (n := 0) (s := ⟨#[]⟩) (cap := 4) (N := 4) (HB.out.trans (HX10.out.mono HB.out.size)) HG10.out (w.heap.size + 1) (fun j hj => ⟨by omega, by omega⟩) (by omega) rfl
 obtain ⟨⟨t0, t1, t2, t3⟩, _⟩ := hC
 exact bodyPost_ret (v := .agg #[.int .i64 3, .int .i64 0, .string ⟨#[]⟩, .slice (some ⟨y4.heap.size, 0, none⟩) 4 4]) (by simp [results, Tryz.results55, go_sem, t0, t1, t2, t3]) rfl hA
end Go.Proofs.YtlpgphiccjkenaaGreatDoor
