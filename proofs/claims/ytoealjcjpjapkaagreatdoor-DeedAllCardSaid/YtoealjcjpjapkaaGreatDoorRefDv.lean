/-
 Contracts of the program, and what they rest on.
-/
import Derived.Test.YtoealjcjpjapkaaGreatDoorTk
import Derived.Test.YtoealjcjpjapkaaGreatDoorM15
import Derived.Test.YtoealjcjpjapkaaGreatDoorRA
set_option maxRecDepth 100000
set_option maxHeartbeats 16000000
namespace Go.Proofs.YtoealjcjpjapkaaGreatDoor
open Go.RowKit
theorem vnum_p (n : Int) (w : World) :
  Calls Tryz.prog 71 #[.int .i64 n] w fun e w' => e = .returned (.agg #[.int .i64 1, .int .i64 n, .string ⟨#[]⟩, .slice none 0 0]) ∧ Below w.heap.size w w' := by
 go_enter Tryz.func71, Tryz.ntmps71
 go_wp2_with fail
 exact bodyPost_ret (v := .agg #[.int .i64 1, .int .i64 n, .string ⟨#[]⟩, .slice none 0 0]) (by simp [results, Tryz.results71, go_sem]) (by first | exact rfl | exact trivial) ⟨by first | exact rfl | exact trivial, (Below.refl _ _).alloc (Nat.le_refl _) _⟩
theorem vstr_p (s : ByteArray) (w : World) :
  Calls Tryz.prog 72 #[.string s] w fun e w' => e = .returned (.agg #[.int .i64 2, .int .i64 0, .string s, .slice none 0 0]) ∧ Below w.heap.size w w' := by
 go_enter Tryz.func72, Tryz.ntmps72
 go_wp2_with fail
 exact bodyPost_ret (v := .agg #[.int .i64 2, .int .i64 0, .string s, .slice none 0 0]) (by simp [results, Tryz.results72, go_sem]) (by first | exact rfl | exact trivial) ⟨by first | exact rfl | exact trivial, (Below.refl _ _).alloc (Nat.le_refl _) _⟩
theorem vlist_p (ad : Option Addr) (n c : Nat) (w : World) :
  Calls Tryz.prog 70 #[.slice ad n c] w fun e w' => e = .returned (.agg #[.int .i64 3, .int .i64 0, .string ⟨#[]⟩, .slice ad n c]) ∧ Below w.heap.size w w' := by
 go_enter Tryz.func70, Tryz.ntmps70
 go_wp2_with fail
 exact bodyPost_ret (v := .agg #[.int .i64 3, .int .i64 0, .string ⟨#[]⟩, .slice ad n c]) (by simp [results, Tryz.results70, go_sem]) (by first | exact rfl | exact trivial) ⟨by first | exact rfl | exact trivial, (Below.refl _ _).alloc (Nat.le_refl _) _⟩
theorem rval_p (d : De) (w : World) :
  Calls Tryz.prog 27 #[dagg d] w fun e w' => Below w.heap.size w w' ∧ ∃ ad cap, e = .returned (.agg #[.int .i64 3, .int .i64 0, .string ⟨#[]⟩, .slice ad 8 cap]) ∧ RepG w' (fun b => w.heap.size ≤ b) ad d.parts := by
 obtain ⟨kind, key, body, ver, cond, tag, req, low⟩ := d
 have HB : Hid (Below w.heap.size w (w.alloc (.cells #[.int .i64 kind, .string key, .string body, .int .i64 ver, .int .i64 cond, .string tag, .int .i64 req, .int .i64 low] 23))) := Lib.hid ((Below.refl _ _).alloc (Nat.le_refl _) _)
 have HB0 : Hid (Below w.heap.size w ((w.alloc (.cells #[.int .i64 kind, .string key, .string body, .int .i64 ver, .int .i64 cond, .string tag, .int .i64 req, .int .i64 low] 23)).alloc (.cells #[.int .i64 0, .int .i64 0, .string ⟨#[]⟩, .slice none 0 0] 45))) := Lib.hid (HB.out.alloc (by simp) _)
 have HC1 : Hid (DeC ((w.alloc (.cells #[.int .i64 kind, .string key, .string body, .int .i64 ver, .int .i64 cond, .string tag, .int .i64 req, .int .i64 low] 23)).alloc (.cells #[.int .i64 0, .int .i64 0, .string ⟨#[]⟩, .slice none 0 0] 45)) w.heap.size ⟨kind, key, body, ver, cond, tag, req, low⟩) := Lib.hid ((DeC.new w ⟨kind, key, body, ver, cond, tag, req, low⟩ 23).below ((Below.refl _ _).alloc (Nat.le_refl _) _))
 have HV1 : Hid (VC ((w.alloc (.cells #[.int .i64 kind, .string key, .string body, .int .i64 ver, .int .i64 cond, .string tag, .int .i64 req, .int .i64 low] 23)).alloc (.cells #[.int .i64 0, .int .i64 0, .string ⟨#[]⟩, .slice none 0 0] 45)) (w.heap.size + 1) 0 0 ⟨#[]⟩ none 0 0) := Lib.hid (by
  refine ⟨⟨?_, ?_, ?_, ?_⟩, ?_, ?_, ?_, ?_⟩ <;> go_simp)
 have hs1 : w.heap.size + 2 ≤ ((w.alloc (.cells #[.int .i64 kind, .string key, .string body, .int .i64 ver, .int .i64 cond, .string tag, .int .i64 req, .int .i64 low] 23)).alloc (.cells #[.int .i64 0, .int .i64 0, .string ⟨#[]⟩, .slice none 0 0] 45)).heap.size := by simp
 unfold dagg
 unfold De.parts
 dsimp only
 go_enter Tryz.func27, Tryz.ntmps27
 go_wp2_with fail
 generalize ((w.alloc (.cells #[.int .i64 kind, .string key, .string body, .int .i64 ver, .int .i64 cond, .string tag, .int .i64 req, .int .i64 low] 23)).alloc (.cells #[.int .i64 0, .int .i64 0, .string ⟨#[]⟩, .slice none 0 0] 45)) = w1 at *
 have HB1 := Lib.hid HB0.out
 have HS : Hid (∀ W, Below w1.heap.size w1 W → DeC W w.heap.size ⟨kind, key, body, ver, cond, tag, req, low⟩) := Lib.hid (fun W hW => HC1.out.below hW)
 clear HB HB0
 have hS0 := HS.out _ (Below.refl w1.heap.size w1).drew
 refine wp_region_last (S := fun W => DeC W w.heap.size ⟨kind, key, body, ver, cond, tag, req, low⟩) (by kernel_rfl) (ops := List.toArray [_, _, _, _, _, _, _, _, _, _, _, _, _, _, _, _, _, _, _, _, _, _, _, _, _, _]) (o := _) rfl (by kernel_rfl) ?_
 refine tk 0 (.pointer (some ⟨w.heap.size, 0, none⟩)) rfl ?_ hS0 ?_
 ·intro w' ⟨s0, s1, s2, s3, s4, s5, s6, s7⟩; dsimp only at s0 s1 s2 s3 s4 s5 s6 s7; go_simp
 refine tk 1 (.int .i64 kind) rfl ?_ hS0 ?_
 ·intro w' ⟨s0, s1, s2, s3, s4, s5, s6, s7⟩; dsimp only at s0 s1 s2 s3 s4 s5 s6 s7; go_simp
 refine tk 3 (.pointer (some ⟨w.heap.size, 1, none⟩)) rfl ?_ hS0 ?_
 ·intro w' ⟨s0, s1, s2, s3, s4, s5, s6, s7⟩; dsimp only at s0 s1 s2 s3 s4 s5 s6 s7; go_simp
 refine tk 4 (.string key) rfl ?_ hS0 ?_
 ·intro w' ⟨s0, s1, s2, s3, s4, s5, s6, s7⟩; dsimp only at s0 s1 s2 s3 s4 s5 s6 s7; go_simp
 refine tk 6 (.pointer (some ⟨w.heap.size, 2, none⟩)) rfl ?_ hS0 ?_
 ·intro w' ⟨s0, s1, s2, s3, s4, s5, s6, s7⟩; dsimp only at s0 s1 s2 s3 s4 s5 s6 s7; go_simp
 refine tk 7 (.string body) rfl ?_ hS0 ?_
 ·intro w' ⟨s0, s1, s2, s3, s4, s5, s6, s7⟩; dsimp only at s0 s1 s2 s3 s4 s5 s6 s7; go_simp
 refine tk 9 (.pointer (some ⟨w.heap.size, 3, none⟩)) rfl ?_ hS0 ?_
 ·intro w' ⟨s0, s1, s2, s3, s4, s5, s6, s7⟩; dsimp only at s0 s1 s2 s3 s4 s5 s6 s7; go_simp
 refine tk 10 (.int .i64 ver) rfl ?_ hS0 ?_
 ·intro w' ⟨s0, s1, s2, s3, s4, s5, s6, s7⟩; dsimp only at s0 s1 s2 s3 s4 s5 s6 s7; go_simp
 refine tk 12 (.pointer (some ⟨w.heap.size, 4, none⟩)) rfl ?_ hS0 ?_
 ·intro w' ⟨s0, s1, s2, s3, s4, s5, s6, s7⟩; dsimp only at s0 s1 s2 s3 s4 s5 s6 s7; go_simp
 refine tk 13 (.int .i64 cond) rfl ?_ hS0 ?_
 ·intro w' ⟨s0, s1, s2, s3, s4, s5, s6, s7⟩; dsimp only at s0 s1 s2 s3 s4 s5 s6 s7; go_simp
 refine tk 15 (.pointer (some ⟨w.heap.size, 5, none⟩)) rfl ?_ hS0 ?_
 ·intro w' ⟨s0, s1, s2, s3, s4, s5, s6, s7⟩; dsimp only at s0 s1 s2 s3 s4 s5 s6 s7; go_simp
 refine tk 16 (.string tag) rfl ?_ hS0 ?_
 ·intro w' ⟨s0, s1, s2, s3, s4, s5, s6, s7⟩; dsimp only at s0 s1 s2 s3 s4 s5 s6 s7; go_simp
 refine tk 18 (.pointer (some ⟨w.heap.size, 6, none⟩)) rfl ?_ hS0 ?_
 ·intro w' ⟨s0, s1, s2, s3, s4, s5, s6, s7⟩; dsimp only at s0 s1 s2 s3 s4 s5 s6 s7; go_simp
 refine tk 19 (.int .i64 req) rfl ?_ hS0 ?_
 ·intro w' ⟨s0, s1, s2, s3, s4, s5, s6, s7⟩; dsimp only at s0 s1 s2 s3 s4 s5 s6 s7; go_simp
 refine tk 21 (.pointer (some ⟨w.heap.size, 7, none⟩)) rfl ?_ hS0 ?_
 ·intro w' ⟨s0, s1, s2, s3, s4, s5, s6, s7⟩; dsimp only at s0 s1 s2 s3 s4 s5 s6 s7; go_simp
 refine tk 22 (.int .i64 low) rfl ?_ hS0 ?_
 ·intro w' ⟨s0, s1, s2, s3, s4, s5, s6, s7⟩; dsimp only at s0 s1 s2 s3 s4 s5 s6 s7; go_simp
 simp only [List.getElem_toArray, List.getElem_cons_succ, List.getElem_cons_zero, Act.put, List.setIfInBounds_toArray, List.set_cons_zero, List.set_cons_succ]
 have HX0 := Lib.hid (Below.refl w1.heap.size w1).drew
 clear hS0
 refine wpAnyH_ready (rs := [2]) (by kernel_rfl) (by simp) ?_
 refine AllReadyH.cons rfl (fun K hK => ?_) AllReadyH.nil
 simp only [List.getElem_toArray, List.getElem_cons_succ, List.getElem_cons_zero]
 go_simp
 refine (vnum_p kind _).mono ?_
 rintro _ y1 ⟨rfl, hy⟩
 have HX1 := Lib.hid (HX0.out.trans (hy.mono HX0.out.size))
 clear hy
 refine hK.out _ _ (HS.out _ HX1.out) (fun _ => ?_)
 clear hK
 refine wpAnyH_ready (rs := [5]) (by kernel_rfl) (by simp) ?_
 refine AllReadyH.cons rfl (fun K hK => ?_) AllReadyH.nil
 simp only [List.getElem_toArray, List.getElem_cons_succ, List.getElem_cons_zero]
 go_simp
 refine (vstr_p key _).mono ?_
 rintro _ y2 ⟨rfl, hy⟩
 have HX2 := Lib.hid (HX1.out.trans (hy.mono HX1.out.size))
 clear hy
 refine hK.out _ _ (HS.out _ HX2.out) (fun _ => ?_)
 clear hK
 refine wpAnyH_ready (rs := [8]) (by kernel_rfl) (by simp) ?_
 refine AllReadyH.cons rfl (fun K hK => ?_) AllReadyH.nil
 simp only [List.getElem_toArray, List.getElem_cons_succ, List.getElem_cons_zero]
 go_simp
 refine (vstr_p body _).mono ?_
 rintro _ y3 ⟨rfl, hy⟩
 have HX3 := Lib.hid (HX2.out.trans (hy.mono HX2.out.size))
 clear hy
 refine hK.out _ _ (HS.out _ HX3.out) (fun _ => ?_)
 clear hK
 refine wpAnyH_ready (rs := [11]) (by kernel_rfl) (by simp) ?_
 refine AllReadyH.cons rfl (fun K hK => ?_) AllReadyH.nil
 simp only [List.getElem_toArray, List.getElem_cons_succ, List.getElem_cons_zero]
 go_simp
 refine (vnum_p ver _).mono ?_
 rintro _ y4 ⟨rfl, hy⟩
 have HX4 := Lib.hid (HX3.out.trans (hy.mono HX3.out.size))
 clear hy
 refine hK.out _ _ (HS.out _ HX4.out) (fun _ => ?_)
 clear hK
 refine wpAnyH_ready (rs := [14]) (by kernel_rfl) (by simp) ?_
 refine AllReadyH.cons rfl (fun K hK => ?_) AllReadyH.nil
 simp only [List.getElem_toArray, List.getElem_cons_succ, List.getElem_cons_zero]
 go_simp
 refine (vnum_p cond _).mono ?_
 rintro _ y5 ⟨rfl, hy⟩
 have HX5 := Lib.hid (HX4.out.trans (hy.mono HX4.out.size))
 clear hy
 refine hK.out _ _ (HS.out _ HX5.out) (fun _ => ?_)
 clear hK
 refine wpAnyH_ready (rs := [17]) (by kernel_rfl) (by simp) ?_
 refine AllReadyH.cons rfl (fun K hK => ?_) AllReadyH.nil
 simp only [List.getElem_toArray, List.getElem_cons_succ, List.getElem_cons_zero]
 go_simp
 refine (vstr_p tag _).mono ?_
 rintro _ y6 ⟨rfl, hy⟩
 have HX6 := Lib.hid (HX5.out.trans (hy.mono HX5.out.size))
 clear hy
 refine hK.out _ _ (HS.out _ HX6.out) (fun _ => ?_)
 clear hK
 refine wpAnyH_ready (rs := [20]) (by kernel_rfl) (by simp) ?_
 refine AllReadyH.cons rfl (fun K hK => ?_) AllReadyH.nil
 simp only [List.getElem_toArray, List.getElem_cons_succ, List.getElem_cons_zero]
 go_simp
 refine (vnum_p req _).mono ?_
 rintro _ y7 ⟨rfl, hy⟩
 have HX7 := Lib.hid (HX6.out.trans (hy.mono HX6.out.size))
 clear hy
 refine hK.out _ _ (HS.out _ HX7.out) (fun _ => ?_)
 clear hK
 refine wpAnyH_ready (rs := [23]) (by kernel_rfl) (by simp) ?_
 refine AllReadyH.cons rfl (fun K hK => ?_) AllReadyH.nil
 simp only [List.getElem_toArray, List.getElem_cons_succ, List.getElem_cons_zero]
 go_simp
 refine (vnum_p low _).mono ?_
 rintro _ y8 ⟨rfl, hy⟩
 have HX8 := Lib.hid (HX7.out.trans (hy.mono HX7.out.size))
 clear hy
 refine hK.out _ _ (HS.out _ HX8.out) (fun _ => ?_)
 clear hK
 refine wpAnyH_ready (rs := [24]) (by kernel_rfl) (by simp) ?_
 refine AllReadyH.cons rfl (fun K hK => ?_) AllReadyH.nil
 simp only [List.getElem_toArray, List.getElem_cons_succ, List.getElem_cons_zero]
 go_simp
 have hg := parts_new y8 ⟨kind, key, body, ver, cond, tag, req, low⟩ 45
 unfold De.parts at hg
 dsimp only at hg
 have hx9 := HX8.out.alloc HX8.out.size (.cells #[.int .i64 1, .int .i64 kind, .string ⟨#[]⟩, .slice none 0 0, .int .i64 2, .int .i64 0, .string key, .slice none 0 0, .int .i64 2, .int .i64 0, .string body, .slice none 0 0, .int .i64 1, .int .i64 ver, .string ⟨#[]⟩, .slice none 0 0, .int .i64 1, .int .i64 cond, .string ⟨#[]⟩, .slice none 0 0, .int .i64 2, .int .i64 0, .string tag, .slice none 0 0, .int .i64 1, .int .i64 req, .string ⟨#[]⟩, .slice none 0 0, .int .i64 1, .int .i64 low, .string ⟨#[]⟩, .slice none 0 0] 45)
 refine hK.out _ _ (HS.out _ hx9) (fun _ => ?_)
 clear hK
 have hy8 := HX8.out.size
 have hy9 : y8.heap.size < (y8.alloc (.cells #[.int .i64 1, .int .i64 kind, .string ⟨#[]⟩, .slice none 0 0, .int .i64 2, .int .i64 0, .string key, .slice none 0 0, .int .i64 2, .int .i64 0, .string body, .slice none 0 0, .int .i64 1, .int .i64 ver, .string ⟨#[]⟩, .slice none 0 0, .int .i64 1, .int .i64 cond, .string ⟨#[]⟩, .slice none 0 0, .int .i64 2, .int .i64 0, .string tag, .slice none 0 0, .int .i64 1, .int .i64 req, .string ⟨#[]⟩, .slice none 0 0, .int .i64 1, .int .i64 low, .string ⟨#[]⟩, .slice none 0 0] 45)).heap.size := by simp
 generalize y8.alloc _ = y9 at *
 have HG9 := Lib.hid hg
 have HX9 := Lib.hid hx9
 clear hg hx9
 refine wpAnyH_ready (rs := [25]) (by kernel_rfl) (by simp) ?_
 refine AllReadyH.cons rfl (fun K hK => ?_) AllReadyH.nil
 simp only [List.getElem_toArray, List.getElem_cons_succ, List.getElem_cons_zero]
 go_simp
 refine (vlist_p (some ⟨y8.heap.size, 0, none⟩) 8 8 _).mono ?_
 rintro _ y10 ⟨rfl, hy⟩
 have HX10 := Lib.hid (HX9.out.trans (hy.mono HX9.out.size))
 have HG10 : Hid (RepG y10 (fun b => b = y8.heap.size) (some ⟨y8.heap.size, 0, none⟩) _) := Lib.hid (HG9.out.to (fun b hb hlt => ⟨hb, hy.block b hlt⟩))
 clear hy
 refine hK.out _ _ (HS.out _ HX10.out) (fun _ => ?_)
 clear hK
 refine wpAnyH_done (by kernel_rfl) ?_ _
 obtain ⟨⟨v0, v1, v2, v3⟩, f0, f1, f2, f3⟩ := HV1.out.below HX10.out
 rw [Exit.then]
 rw [if_pos (by rfl)]
 go_simp
 go_wp2_with fail
 have hC : VC ((((y10.setCell ⟨w.heap.size + 1, 0, none⟩ (.int .i64 3)).setCell ⟨w.heap.size + 1, 1, none⟩ (.int .i64 0)).setCell ⟨w.heap.size + 1, 2, none⟩ (.string ⟨#[]⟩)).setCell ⟨w.heap.size + 1, 3, none⟩ (.slice (some ⟨y8.heap.size, 0, none⟩) 8 8)) (w.heap.size + 1) 3 0 ⟨#[]⟩ (some ⟨y8.heap.size, 0, none⟩) 8 8 := by
  refine ⟨⟨?_, ?_, ?_, ?_⟩, ?_, ?_, ?_, ?_⟩ <;> go_simp
 have hBw := HB1.out.trans (HX10.out.mono HB1.out.size)
 have hB4 : Below w.heap.size w ((((y10.setCell ⟨w.heap.size + 1, 0, none⟩ (.int .i64 3)).setCell ⟨w.heap.size + 1, 1, none⟩ (.int .i64 0)).setCell ⟨w.heap.size + 1, 2, none⟩ (.string ⟨#[]⟩)).setCell ⟨w.heap.size + 1, 3, none⟩ (.slice (some ⟨y8.heap.size, 0, none⟩) 8 8)) :=
  (((hBw.setCell (by simp) _).setCell (by simp) _).setCell (by simp) _).setCell (by simp) _
 have hG4 := HG10.out.to (w' := (((y10.setCell ⟨w.heap.size + 1, 0, none⟩ (.int .i64 3)).setCell ⟨w.heap.size + 1, 1, none⟩ (.int .i64 0)).setCell ⟨w.heap.size + 1, 2, none⟩ (.string ⟨#[]⟩)).setCell ⟨w.heap.size + 1, 3, none⟩ (.slice (some ⟨y8.heap.size, 0, none⟩) 8 8)) (A' := fun b => w.heap.size ≤ b) (fun b hb _ => ⟨by omega, by
  rw [heap_setCell_other _ _ _ _ (by simp; omega), heap_setCell_other _ _ _ _ (by simp; omega), heap_setCell_other _ _ _ _ (by simp; omega), heap_setCell_other _ _ _ _ (by simp; omega)]⟩)
 generalize (((y10.setCell ⟨w.heap.size + 1, 0, none⟩ (.int .i64 3)).setCell ⟨w.heap.size + 1, 1, none⟩ (.int .i64 0)).setCell ⟨w.heap.size + 1, 2, none⟩ (.string ⟨#[]⟩)).setCell ⟨w.heap.size + 1, 3, none⟩ (.slice (some ⟨y8.heap.size, 0, none⟩) 8 8) = W4 at *
 obtain ⟨⟨t0, t1, t2, t3⟩, _⟩ := hC
 exact bodyPost_ret (v := .agg #[.int .i64 3, .int .i64 0, .string ⟨#[]⟩, .slice (some ⟨y8.heap.size, 0, none⟩) 8 8]) (by simp [results, Tryz.results27, go_sem, t0, t1, t2, t3]) rfl ⟨hB4, _, _, rfl, hG4⟩
end Go.Proofs.YtoealjcjpjapkaaGreatDoor
