/-
 Contracts of the program, and what they rest on.
-/
import Derived.Test.YtoealjcjpjapkaaGreatDoorM18
import Derived.Test.YtoealjcjpjapkaaGreatDoorM04
import Derived.Test.YtoealjcjpjapkaaGreatDoorRA
set_option maxRecDepth 100000
set_option maxHeartbeats 16000000
namespace Go.Proofs.YtoealjcjpjapkaaGreatDoor
open Go.RowKit
def cutD (d : De) : De := ⟨d.kind, cutS d.key 42, cutS d.body 302, d.ver, d.cond, cutS d.tag 10, d.req, d.low⟩
theorem deed_cut {w : World} {b : Nat} {kind ver cond req low : Int} {key body tag : ByteArray} (h : DeC w b ⟨kind, key, body, ver, cond, tag, req, low⟩) (hw : DeW w b) (K Bo T : ByteArray) :
  DeC (((w.setCell ⟨b, 1, none⟩ (.string K)).setCell ⟨b, 2, none⟩ (.string Bo)).setCell ⟨b, 5, none⟩ (.string T)) b ⟨kind, K, Bo, ver, cond, T, req, low⟩ := by
 obtain ⟨h0, h1, h2, h3, h4, h5, h6, h7⟩ := h
 obtain ⟨f0, f1, f2, f3, f4, f5, f6, f7⟩ := hw
 dsimp only at h0 h1 h2 h3 h4 h5 h6 h7
 refine ⟨?_, ?_, ?_, ?_, ?_, ?_, ?_, ?_⟩ <;> dsimp only <;> go_simp
theorem deed_other {w : World} {b c : Nat} {d : De} (h : DeC w b d) (hw : DeW w b) (hne : c ≠ b) (K Bo T : ByteArray) :
  DeC (((w.setCell ⟨c, 1, none⟩ (.string K)).setCell ⟨c, 2, none⟩ (.string Bo)).setCell ⟨c, 5, none⟩ (.string T)) b d ∧ DeW (((w.setCell ⟨c, 1, none⟩ (.string K)).setCell ⟨c, 2, none⟩ (.string Bo)).setCell ⟨c, 5, none⟩ (.string T)) b := by
 have e : (((w.setCell ⟨c, 1, none⟩ (.string K)).setCell ⟨c, 2, none⟩ (.string Bo)).setCell ⟨c, 5, none⟩ (.string T)).heap[b]? = w.heap[b]? := by
  rw [Below.heap_setCell _ _ _ _ (by simpa using hne.symm), Below.heap_setCell _ _ _ _ (by simpa using hne.symm), Below.heap_setCell _ _ _ _ (by simpa using hne.symm)]
 have cc (o : Nat) := World.cell?_of_block (a := ⟨b, o, none⟩) e
 have ff (o : Nat) := World.frozen?_of_block (a := ⟨b, o, none⟩) e
 unfold DeC DeW at *
 simp only [cc, ff]
 exact ⟨h, hw⟩
theorem ldeed_p (d : De) (w : World) :
  Calls Tryz.prog 10 #[dagg d] w fun e w' => e = .returned (dagg (cutD d)) ∧ Below w.heap.size w w' := by
 obtain ⟨kind, key, body, ver, cond, tag, req, low⟩ := d
 have hb0 : Below w.heap.size w ((w.alloc (.cells #[.int .i64 kind, .string key, .string body, .int .i64 ver, .int .i64 cond, .string tag, .int .i64 req, .int .i64 low] 23)).alloc (.cells #[.int .i64 0, .string ⟨#[]⟩, .string ⟨#[]⟩, .int .i64 0, .int .i64 0, .string ⟨#[]⟩, .int .i64 0, .int .i64 0] 23)) := ((Below.refl _ _).alloc (Nat.le_refl _) _).alloc (by simp) _
 have hd := (DeC.new w ⟨kind, key, body, ver, cond, tag, req, low⟩ 23).below ((Below.refl _ _).alloc (Nat.le_refl _) (.cells #[.int .i64 0, .string ⟨#[]⟩, .string ⟨#[]⟩, .int .i64 0, .int .i64 0, .string ⟨#[]⟩, .int .i64 0, .int .i64 0] 23))
 have hdw := (DeW.new w ⟨kind, key, body, ver, cond, tag, req, low⟩ 23).below (by simp) ((Below.refl _ _).alloc (Nat.le_refl _) (.cells #[.int .i64 0, .string ⟨#[]⟩, .string ⟨#[]⟩, .int .i64 0, .int .i64 0, .string ⟨#[]⟩, .int .i64 0, .int .i64 0] 23))
 have hz := DeC.new (w.alloc (.cells #[.int .i64 kind, .string key, .string body, .int .i64 ver, .int .i64 cond, .string tag, .int .i64 req, .int .i64 low] 23)) De.zero 23
 have hzw := DeW.new (w.alloc (.cells #[.int .i64 kind, .string key, .string body, .int .i64 ver, .int .i64 cond, .string tag, .int .i64 req, .int .i64 low] 23)) De.zero 23
 rw [show (w.alloc (.cells #[.int .i64 kind, .string key, .string body, .int .i64 ver, .int .i64 cond, .string tag, .int .i64 req, .int .i64 low] 23)).heap.size = w.heap.size + 1 by simp] at hz hzw
 have C1 := Lib.hid (cut_any key 42)
 have C2 := Lib.hid (cut_any body 302)
 have C3 := Lib.hid (cut_any tag 10)
 unfold cutD
 dsimp only
 generalize cutS key 42 = Ky at *
 generalize cutS body 302 = Bo at *
 generalize cutS tag 10 = T at *
 unfold dagg
 dsimp only [De.zero] at hd hdw hz hzw ⊢
 go_enter Tryz.func10, Tryz.ntmps10
 go_wp2_with fail
 generalize (w.alloc (.cells #[.int .i64 kind, .string key, .string body, .int .i64 ver, .int .i64 cond, .string tag, .int .i64 req, .int .i64 low] 23)).alloc (.cells #[.int .i64 0, .string ⟨#[]⟩, .string ⟨#[]⟩, .int .i64 0, .int .i64 0, .string ⟨#[]⟩, .int .i64 0, .int .i64 0] 23) = W at *
 have HD := Lib.hid (And.intro hd hdw)
 have HZ := Lib.hid (And.intro hz hzw)
 have HB0 := Lib.hid hb0
 obtain ⟨d0, d1, d2, d3, d4, d5, d6, d7⟩ := hd
 dsimp only at d0 d1 d2 d3 d4 d5 d6 d7
 obtain ⟨f0, f1, f2, f3, f4, f5, f6, f7⟩ := hdw
 clear hz hzw hb0
 have k2 : ∀ x : Value, (W.drew.setCell ⟨w.heap.size, 1, none⟩ x).cell? ⟨w.heap.size, 2, none⟩ = some (.string body) := fun x => by have e2 : W.drew.cell? ⟨w.heap.size, 2, none⟩ = some (.string body) := d2; go_simp
 have k5 : ∀ x : Value, (W.drew.setCell ⟨w.heap.size, 1, none⟩ x).cell? ⟨w.heap.size, 5, none⟩ = some (.string tag) := fun x => by have e5 : W.drew.cell? ⟨w.heap.size, 5, none⟩ = some (.string tag) := d5; go_simp
 have m5 : ∀ x y : Value, ((W.drew.setCell ⟨w.heap.size, 1, none⟩ x).setCell ⟨w.heap.size, 2, none⟩ y).cell? ⟨w.heap.size, 5, none⟩ = some (.string tag) := fun x y => by have e5 : W.drew.cell? ⟨w.heap.size, 5, none⟩ = some (.string tag) := d5; go_simp
 refine wp_region_D (S := fun L Y => (L.getD 10 false = false → Y.cell? ⟨w.heap.size, 1, none⟩ = some (.string key)) ∧ (L.getD 12 false = false → Y.cell? ⟨w.heap.size, 2, none⟩ = some (.string body)) ∧ (L.getD 14 false = false → Y.cell? ⟨w.heap.size, 5, none⟩ = some (.string tag))) (by kernel_rfl) ⟨fun _ => d1, fun _ => d2, fun _ => d5⟩ (fun hS0 => ?_)
 refine wpAnyD_take (i := 0) (v := Value.pointer (some ⟨w.heap.size, 1, none⟩)) rfl (by kernel_rfl) (by kernel_rfl) (by kernel_rfl) (by kernel_rfl) (fun _ _ _ h => h) (fun L w => by simp only [getD_set_ne false (by decide : (0 : Nat) ≠ 10), getD_set_ne false (by decide : (0 : Nat) ≠ 12), getD_set_ne false (by decide : (0 : Nat) ≠ 14)]) (by kernel_rfl) hS0 ⟨by rfl, fun L w' hL hD hS => ?_⟩ (fun hS0 => ?_)
 ·refine .inl ?_
  go_simp
 refine wpAnyD_take (i := 1) (v := Value.string key) rfl (by kernel_rfl) (by kernel_rfl) (by kernel_rfl) (by kernel_rfl) (fun _ _ _ h => h) (fun L w => by simp only [getD_set_ne false (by decide : (1 : Nat) ≠ 10), getD_set_ne false (by decide : (1 : Nat) ≠ 12), getD_set_ne false (by decide : (1 : Nat) ≠ 14)]) (by kernel_rfl) hS0 ⟨by rfl, fun L w' hL hD hS => ?_⟩ (fun hS0 => ?_)
 ·have hh := hS.1 (blocked (j := 10) hD hL (by kernel_rfl))
  refine .inl ?_
  go_simp
 refine wpAnyD_take (i := 2) (v := Value.string Ky) rfl (by kernel_rfl) (by kernel_rfl) (by kernel_rfl) (by kernel_rfl) (fun _ _ _ h => h) (fun L w => by simp only [getD_set_ne false (by decide : (2 : Nat) ≠ 10), getD_set_ne false (by decide : (2 : Nat) ≠ 12), getD_set_ne false (by decide : (2 : Nat) ≠ 14)]) (by kernel_rfl) hS0 ⟨by rfl, fun L w' hL hD hS => ?_⟩ (fun hS0 => ?_)
 ·refine .inr ⟨_, _, by first | rfl | (go_simp; rfl) | go_simp, (C1.out w').mono (fun e w'' h => ⟨h.1, h.2⟩)⟩
 refine wpAnyD_take (i := 3) (v := Value.pointer (some ⟨w.heap.size, 2, none⟩)) rfl (by kernel_rfl) (by kernel_rfl) (by kernel_rfl) (by kernel_rfl) (fun _ _ _ h => h) (fun L w => by simp only [getD_set_ne false (by decide : (3 : Nat) ≠ 10), getD_set_ne false (by decide : (3 : Nat) ≠ 12), getD_set_ne false (by decide : (3 : Nat) ≠ 14)]) (by kernel_rfl) hS0 ⟨by rfl, fun L w' hL hD hS => ?_⟩ (fun hS0 => ?_)
 ·refine .inl ?_
  go_simp
 refine wpAnyD_take (i := 4) (v := Value.string body) rfl (by kernel_rfl) (by kernel_rfl) (by kernel_rfl) (by kernel_rfl) (fun _ _ _ h => h) (fun L w => by simp only [getD_set_ne false (by decide : (4 : Nat) ≠ 10), getD_set_ne false (by decide : (4 : Nat) ≠ 12), getD_set_ne false (by decide : (4 : Nat) ≠ 14)]) (by kernel_rfl) hS0 ⟨by rfl, fun L w' hL hD hS => ?_⟩ (fun hS0 => ?_)
 ·have hh := hS.2.1 (blocked (j := 12) hD hL (by kernel_rfl))
  refine .inl ?_
  go_simp
 refine wpAnyD_take (i := 5) (v := Value.string Bo) rfl (by kernel_rfl) (by kernel_rfl) (by kernel_rfl) (by kernel_rfl) (fun _ _ _ h => h) (fun L w => by simp only [getD_set_ne false (by decide : (5 : Nat) ≠ 10), getD_set_ne false (by decide : (5 : Nat) ≠ 12), getD_set_ne false (by decide : (5 : Nat) ≠ 14)]) (by kernel_rfl) hS0 ⟨by rfl, fun L w' hL hD hS => ?_⟩ (fun hS0 => ?_)
 ·refine .inr ⟨_, _, by first | rfl | (go_simp; rfl) | go_simp, (C2.out w').mono (fun e w'' h => ⟨h.1, h.2⟩)⟩
 refine wpAnyD_take (i := 6) (v := Value.pointer (some ⟨w.heap.size, 5, none⟩)) rfl (by kernel_rfl) (by kernel_rfl) (by kernel_rfl) (by kernel_rfl) (fun _ _ _ h => h) (fun L w => by simp only [getD_set_ne false (by decide : (6 : Nat) ≠ 10), getD_set_ne false (by decide : (6 : Nat) ≠ 12), getD_set_ne false (by decide : (6 : Nat) ≠ 14)]) (by kernel_rfl) hS0 ⟨by rfl, fun L w' hL hD hS => ?_⟩ (fun hS0 => ?_)
 ·refine .inl ?_
  go_simp
 refine wpAnyD_take (i := 7) (v := Value.string tag) rfl (by kernel_rfl) (by kernel_rfl) (by kernel_rfl) (by kernel_rfl) (fun _ _ _ h => h) (fun L w => by simp only [getD_set_ne false (by decide : (7 : Nat) ≠ 10), getD_set_ne false (by decide : (7 : Nat) ≠ 12), getD_set_ne false (by decide : (7 : Nat) ≠ 14)]) (by kernel_rfl) hS0 ⟨by rfl, fun L w' hL hD hS => ?_⟩ (fun hS0 => ?_)
 ·have hh := hS.2.2 (blocked (j := 14) hD hL (by kernel_rfl))
  refine .inl ?_
  go_simp
 refine wpAnyD_take (i := 8) (v := Value.string T) rfl (by kernel_rfl) (by kernel_rfl) (by kernel_rfl) (by kernel_rfl) (fun _ _ _ h => h) (fun L w => by simp only [getD_set_ne false (by decide : (8 : Nat) ≠ 10), getD_set_ne false (by decide : (8 : Nat) ≠ 12), getD_set_ne false (by decide : (8 : Nat) ≠ 14)]) (by kernel_rfl) hS0 ⟨by rfl, fun L w' hL hD hS => ?_⟩ (fun hS0 => ?_)
 ·refine .inr ⟨_, _, by first | rfl | (go_simp; rfl) | go_simp, (C3.out w').mono (fun e w'' h => ⟨h.1, h.2⟩)⟩
 refine wpAnyD_take (i := 9) (v := Value.pointer (some ⟨w.heap.size, 1, none⟩)) rfl (by kernel_rfl) (by kernel_rfl) (by kernel_rfl) (by kernel_rfl) (fun _ _ _ h => h) (fun L w => by simp only [getD_set_ne false (by decide : (9 : Nat) ≠ 10), getD_set_ne false (by decide : (9 : Nat) ≠ 12), getD_set_ne false (by decide : (9 : Nat) ≠ 14)]) (by kernel_rfl) hS0 ⟨by rfl, fun L w' hL hD hS => ?_⟩ (fun hS0 => ?_)
 ·refine .inl ?_
  go_simp
 simp only [List.getElem_toArray, List.getElem_cons_succ, List.getElem_cons_zero, Act.put, List.setIfInBounds_toArray, List.set_cons_zero, List.set_cons_succ]
 refine wpAnyD_one (i := 10) (by kernel_rfl) rfl (by kernel_rfl) (fun K hK => ?_)
 simp only [List.getElem_toArray, List.getElem_cons_succ, List.getElem_cons_zero]
 go_simp
 refine hK.out _ _ ⟨fun h => (by cases h), fun _ => k2 _, fun _ => k5 _⟩ (fun hS0 => ?_)
 clear hK
 refine wpAnyD_take (i := 11) (v := Value.pointer (some ⟨w.heap.size, 2, none⟩)) rfl (by kernel_rfl) (by kernel_rfl) (by kernel_rfl) (by kernel_rfl) (fun _ _ _ h => h) (fun L w => by simp only [getD_set_ne false (by decide : (11 : Nat) ≠ 10), getD_set_ne false (by decide : (11 : Nat) ≠ 12), getD_set_ne false (by decide : (11 : Nat) ≠ 14)]) (by kernel_rfl) hS0 ⟨by rfl, fun L w' hL hD hS => ?_⟩ (fun hS0 => ?_)
 ·refine .inl ?_
  go_simp
 simp only [List.getElem_toArray, List.getElem_cons_succ, List.getElem_cons_zero, Act.put, List.setIfInBounds_toArray, List.set_cons_zero, List.set_cons_succ]
 refine wpAnyD_one (i := 12) (by kernel_rfl) rfl (by kernel_rfl) (fun K hK => ?_)
 simp only [List.getElem_toArray, List.getElem_cons_succ, List.getElem_cons_zero]
 go_simp
 refine hK.out _ _ ⟨fun h => (by cases h), fun h => (by cases h), fun _ => m5 _ _⟩ (fun hS0 => ?_)
 clear hK
 refine wpAnyD_take (i := 13) (v := Value.pointer (some ⟨w.heap.size, 5, none⟩)) rfl (by kernel_rfl) (by kernel_rfl) (by kernel_rfl) (by kernel_rfl) (fun _ _ _ h => h) (fun L w => by simp only [getD_set_ne false (by decide : (13 : Nat) ≠ 10), getD_set_ne false (by decide : (13 : Nat) ≠ 12), getD_set_ne false (by decide : (13 : Nat) ≠ 14)]) (by kernel_rfl) hS0 ⟨by rfl, fun L w' hL hD hS => ?_⟩ (fun hS0 => ?_)
 ·refine .inl ?_
  go_simp
 simp only [List.getElem_toArray, List.getElem_cons_succ, List.getElem_cons_zero, Act.put, List.setIfInBounds_toArray, List.set_cons_zero, List.set_cons_succ]
 refine wpAnyD_one (i := 14) (by kernel_rfl) rfl (by kernel_rfl) (fun K hK => ?_)
 simp only [List.getElem_toArray, List.getElem_cons_succ, List.getElem_cons_zero]
 go_simp
 refine hK.out _ _ ⟨fun h => (by cases h), fun h => (by cases h), fun h => (by cases h)⟩ (fun hS0 => ?_)
 clear hK
 refine wpAnyD_done (by kernel_rfl) ?_ _
 have hc := (deed_cut HD.out.1 HD.out.2 Ky Bo T).below (Below.refl (((W.setCell ⟨w.heap.size, 1, none⟩ (.string Ky)).setCell ⟨w.heap.size, 2, none⟩ (.string Bo)).setCell ⟨w.heap.size, 5, none⟩ (.string T)).heap.size _).drew
 have hb1 : Below w.heap.size w ((((W.setCell ⟨w.heap.size, 1, none⟩ (.string Ky)).setCell ⟨w.heap.size, 2, none⟩ (.string Bo)).setCell ⟨w.heap.size, 5, none⟩ (.string T)).drew) := (((HB0.out.setCell (by simp) _).setCell (by simp) _).setCell (by simp) _).drew
 have hz0 := deed_other (b := w.heap.size + 1) (c := w.heap.size) HZ.out.1 HZ.out.2 (by omega) Ky Bo T
 have hz1 := And.intro (hz0.1.below (Below.refl (((W.setCell ⟨w.heap.size, 1, none⟩ (.string Ky)).setCell ⟨w.heap.size, 2, none⟩ (.string Bo)).setCell ⟨w.heap.size, 5, none⟩ (.string T)).heap.size _).drew) (hz0.2.below (World.block_lt_of_cell? _ _ hz0.1.1) (Below.refl (((W.setCell ⟨w.heap.size, 1, none⟩ (.string Ky)).setCell ⟨w.heap.size, 2, none⟩ (.string Bo)).setCell ⟨w.heap.size, 5, none⟩ (.string T)).heap.size _).drew)
 clear d0 d1 d2 d3 d4 d5 d6 d7 f0 f1 f2 f3 f4 f5 f6 f7 k2 k5 m5 hS0 C1 C2 C3 hz0
 generalize (((W.setCell ⟨w.heap.size, 1, none⟩ (.string Ky)).setCell ⟨w.heap.size, 2, none⟩ (.string Bo)).setCell ⟨w.heap.size, 5, none⟩ (.string T)).drew = V at *
 obtain ⟨d0, d1, d2, d3, d4, d5, d6, d7⟩ := hc
 have hZ2 := Lib.hid hz1
 obtain ⟨⟨z0, z1, z2, z3, z4, z5, z6, z7⟩, f0, f1, f2, f3, f4, f5, f6, f7⟩ := hz1
 dsimp only at d0 d1 d2 d3 d4 d5 d6 d7 z0 z1 z2 z3 z4 z5 z6 z7
 go_wp2_with fail
 have hC := putD_de hZ2.out.1 hZ2.out.2 ⟨kind, Ky, Bo, ver, cond, T, req, low⟩
 have hB := putD_below hb1 (show w.heap.size ≤ w.heap.size + 1 by omega) ⟨kind, Ky, Bo, ver, cond, T, req, low⟩
 obtain ⟨t0, t1, t2, t3, t4, t5, t6, t7⟩ := hC
 dsimp only at t0 t1 t2 t3 t4 t5 t6 t7
 exact bodyPost_ret (v := .agg #[.int .i64 kind, .string Ky, .string Bo, .int .i64 ver, .int .i64 cond, .string T, .int .i64 req, .int .i64 low]) (by simp [results, Tryz.results10, go_sem, t0, t1, t2, t3, t4, t5, t6, t7]) rfl ⟨rfl, hB⟩
end Go.Proofs.YtoealjcjpjapkaaGreatDoor
