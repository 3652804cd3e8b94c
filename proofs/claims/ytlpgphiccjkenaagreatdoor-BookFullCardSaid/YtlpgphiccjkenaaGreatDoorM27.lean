/-
 Contracts of the program, and what they rest on.
-/
import Derived.Test.YtlpgphiccjkenaaGreatDoorM05
import Derived.Test.YtlpgphiccjkenaaGreatDoorM26
import Derived.Test.YtlpgphiccjkenaaGreatDoorM24
import Derived.Test.YtlpgphiccjkenaaGreatDoorM22
set_option maxRecDepth 100000
set_option maxHeartbeats 16000000
namespace Go.Proofs.YtlpgphiccjkenaaGreatDoor
open Go.RowKit
def AllV (r : Except Nat G) (w : World) (e : Ending) (w' : World) : Prop :=
 Below w.heap.size w w' ∧
 match r with
 | .error _ => e = .returned (.tuple #[.agg #[.int .i64 0, .int .i64 0, .string ⟨#[]⟩, .slice none 0 0], .int .i64 1])
 | .ok x => ∃ ad cap, e = .returned (.tuple #[.agg #[.int .i64 x.k, .int .i64 x.n, .string x.s, .slice ad x.l.len cap], .int .i64 0]) ∧ RepG w' (fun b => w.heap.size ≤ b) ad x.l
theorem all_bad (t : ByteArray) (w : World) (k n b er : Int) (s : ByteArray) (len : Nat) (hr : ¬ er = 0 ∨ ¬ b = (t.size : Int))
  (H : Calls Tryz.prog 86 #[.string t] (w.alloc (.cells #[.int .i64 0, .int .i64 0, .string ⟨#[]⟩, .slice none 0 0] 88)) fun e w' => (∃ ad cap, e = .returned (.tuple #[.agg #[.int .i64 k, .int .i64 n, .string s, .slice ad len cap], .int .i64 b, .int .i64 er])) ∧ Below (w.alloc (.cells #[.int .i64 0, .int .i64 0, .string ⟨#[]⟩, .slice none 0 0] 88)).heap.size (w.alloc (.cells #[.int .i64 0, .int .i64 0, .string ⟨#[]⟩, .slice none 0 0] 88)) w') :
  Calls Tryz.prog 47 #[.string t] w fun e w' => e = .returned (.tuple #[.agg #[.int .i64 0, .int .i64 0, .string ⟨#[]⟩, .slice none 0 0], .int .i64 1]) ∧ Below w.heap.size w w' := by
 have HB0 : Hid (Below w.heap.size w (w.alloc (.cells #[.int .i64 0, .int .i64 0, .string ⟨#[]⟩, .slice none 0 0] 88))) := Lib.hid ((Below.refl _ _).alloc (Nat.le_refl _) _)
 have H' := Lib.hid H
 clear H
 by_cases he : er = 0
 ·subst he
  have hb : (b != (t.size : Int)) = true := by rw [bne_iff_ne]; rcases hr with h | h; exact absurd rfl h; exact h
  clear hr
  go_enter Tryz.func47, Tryz.ntmps47
  go_wp2_with fail
  refine H'.out.mono ?_
  rintro _ w2 ⟨⟨ad, cap, rfl⟩, hb2⟩
  have hlt : w.heap.size < w2.heap.size := by have := hb2.size; simp at this; omega
  have c0 : w2.cell? ⟨w.heap.size, 0, none⟩ = some (.int .i64 0) := by rw [hb2.cell (by simp)]; go_simp
  have z0 : w2.frozen? ⟨w.heap.size, 0, none⟩ = false := by rw [hb2.frozen (by simp)]; go_simp
  have c1 : w2.cell? ⟨w.heap.size, 1, none⟩ = some (.int .i64 0) := by rw [hb2.cell (by simp)]; go_simp
  have z1 : w2.frozen? ⟨w.heap.size, 1, none⟩ = false := by rw [hb2.frozen (by simp)]; go_simp
  have c2 : w2.cell? ⟨w.heap.size, 2, none⟩ = some (.string ⟨#[]⟩) := by rw [hb2.cell (by simp)]; go_simp
  have z2 : w2.frozen? ⟨w.heap.size, 2, none⟩ = false := by rw [hb2.frozen (by simp)]; go_simp
  have c3 : w2.cell? ⟨w.heap.size, 3, none⟩ = some (.slice none 0 0) := by rw [hb2.cell (by simp)]; go_simp
  have z3 : w2.frozen? ⟨w.heap.size, 3, none⟩ = false := by rw [hb2.frozen (by simp)]; go_simp
  have HB2 := Lib.hid (HB0.out.trans (hb2.mono HB0.out.size))
  have hne : ¬ w2.heap.size = w.heap.size := by omega
  have hne' : ¬ w.heap.size = w2.heap.size := by omega
  clear hb2
  go_wp2_with fail
  exact bodyPost_ret (v := .tuple #[.agg #[.int .i64 0, .int .i64 0, .string ⟨#[]⟩, .slice none 0 0], .int .i64 1]) (by simp [results, Tryz.results47, go_sem, c0, c1, c2, c3, hlt]) rfl ⟨rfl, (((((HB2.out.setCell (by simp) _).setCell (by simp) _).setCell (by simp) _).setCell (by simp) _).alloc (by simp; omega) _)⟩
 ·have hb : (er != 0) = true := by rw [bne_iff_ne]; exact he
  clear hr he
  go_enter Tryz.func47, Tryz.ntmps47
  go_wp2_with fail
  refine H'.out.mono ?_
  rintro _ w2 ⟨⟨ad, cap, rfl⟩, hb2⟩
  have hlt : w.heap.size < w2.heap.size := by have := hb2.size; simp at this; omega
  have c0 : w2.cell? ⟨w.heap.size, 0, none⟩ = some (.int .i64 0) := by rw [hb2.cell (by simp)]; go_simp
  have z0 : w2.frozen? ⟨w.heap.size, 0, none⟩ = false := by rw [hb2.frozen (by simp)]; go_simp
  have c1 : w2.cell? ⟨w.heap.size, 1, none⟩ = some (.int .i64 0) := by rw [hb2.cell (by simp)]; go_simp
  have z1 : w2.frozen? ⟨w.heap.size, 1, none⟩ = false := by rw [hb2.frozen (by simp)]; go_simp
  have c2 : w2.cell? ⟨w.heap.size, 2, none⟩ = some (.string ⟨#[]⟩) := by rw [hb2.cell (by simp)]; go_simp
  have z2 : w2.frozen? ⟨w.heap.size, 2, none⟩ = false := by rw [hb2.frozen (by simp)]; go_simp
  have c3 : w2.cell? ⟨w.heap.size, 3, none⟩ = some (.slice none 0 0) := by rw [hb2.cell (by simp)]; go_simp
  have z3 : w2.frozen? ⟨w.heap.size, 3, none⟩ = false := by rw [hb2.frozen (by simp)]; go_simp
  have HB2 := Lib.hid (HB0.out.trans (hb2.mono HB0.out.size))
  have hne : ¬ w2.heap.size = w.heap.size := by omega
  have hne' : ¬ w.heap.size = w2.heap.size := by omega
  clear hb2
  go_wp2_with fail
  exact bodyPost_ret (v := .tuple #[.agg #[.int .i64 0, .int .i64 0, .string ⟨#[]⟩, .slice none 0 0], .int .i64 1]) (by simp [results, Tryz.results47, go_sem, c0, c1, c2, c3, hlt]) rfl ⟨rfl, (((((HB2.out.setCell (by simp) _).setCell (by simp) _).setCell (by simp) _).setCell (by simp) _).alloc (by simp; omega) _)⟩
theorem all_good (t : ByteArray) (w : World) (k n b : Int) (s : ByteArray) (len : Nat) (hb : b = (t.size : Int)) (P : Option Addr → Nat → World → Prop)
  (hP : ∀ ad cap w1 w2, P ad cap w1 → (∀ j, j ≠ w.heap.size → j < w1.heap.size → w2.heap[j]? = w1.heap[j]?) → P ad cap w2)
  (H : Calls Tryz.prog 86 #[.string t] (w.alloc (.cells #[.int .i64 0, .int .i64 0, .string ⟨#[]⟩, .slice none 0 0] 88)) fun e w' => (∃ ad cap, e = .returned (.tuple #[.agg #[.int .i64 k, .int .i64 n, .string s, .slice ad len cap], .int .i64 b, .int .i64 0]) ∧ P ad cap w') ∧ Below (w.alloc (.cells #[.int .i64 0, .int .i64 0, .string ⟨#[]⟩, .slice none 0 0] 88)).heap.size (w.alloc (.cells #[.int .i64 0, .int .i64 0, .string ⟨#[]⟩, .slice none 0 0] 88)) w') :
  Calls Tryz.prog 47 #[.string t] w fun e w' => (∃ ad cap, e = .returned (.tuple #[.agg #[.int .i64 k, .int .i64 n, .string s, .slice ad len cap], .int .i64 0]) ∧ P ad cap w') ∧ Below w.heap.size w w' := by
 have HB0 : Hid (Below w.heap.size w (w.alloc (.cells #[.int .i64 0, .int .i64 0, .string ⟨#[]⟩, .slice none 0 0] 88))) := Lib.hid ((Below.refl _ _).alloc (Nat.le_refl _) _)
 have H' := Lib.hid H
 have HP := Lib.hid hP
 clear H hP
 have hbe : (b != (t.size : Int)) = false := by rw [bne_eq_false_iff_eq]; exact hb
 clear hb
 go_enter Tryz.func47, Tryz.ntmps47
 go_wp2_with fail
 refine H'.out.mono ?_
 rintro _ w2 ⟨⟨ad, cap, rfl, hp2⟩, hb2⟩
 have HPP := Lib.hid hp2
 have hlt : w.heap.size < w2.heap.size := by have := hb2.size; simp at this; omega
 have c0 : w2.cell? ⟨w.heap.size, 0, none⟩ = some (.int .i64 0) := by rw [hb2.cell (by simp)]; go_simp
 have z0 : w2.frozen? ⟨w.heap.size, 0, none⟩ = false := by rw [hb2.frozen (by simp)]; go_simp
 have c1 : w2.cell? ⟨w.heap.size, 1, none⟩ = some (.int .i64 0) := by rw [hb2.cell (by simp)]; go_simp
 have z1 : w2.frozen? ⟨w.heap.size, 1, none⟩ = false := by rw [hb2.frozen (by simp)]; go_simp
 have c2 : w2.cell? ⟨w.heap.size, 2, none⟩ = some (.string ⟨#[]⟩) := by rw [hb2.cell (by simp)]; go_simp
 have z2 : w2.frozen? ⟨w.heap.size, 2, none⟩ = false := by rw [hb2.frozen (by simp)]; go_simp
 have c3 : w2.cell? ⟨w.heap.size, 3, none⟩ = some (.slice none 0 0) := by rw [hb2.cell (by simp)]; go_simp
 have z3 : w2.frozen? ⟨w.heap.size, 3, none⟩ = false := by rw [hb2.frozen (by simp)]; go_simp
 have HB2 := Lib.hid (HB0.out.trans (hb2.mono HB0.out.size))
 have hne : ¬ w2.heap.size = w.heap.size := by omega
 have hne' : ¬ w.heap.size = w2.heap.size := by omega
 clear hb2 hp2
 go_wp2_with fail
 have d0 : (((((w2.setCell ⟨w.heap.size, 0, none⟩ (.int .i64 k)).setCell ⟨w.heap.size, 1, none⟩ (.int .i64 n)).setCell ⟨w.heap.size, 2, none⟩ (.string s)).setCell ⟨w.heap.size, 3, none⟩ (.slice ad len cap)).alloc (.cells #[.int .i64 k, .int .i64 n, .string s, .slice ad len cap] 88)).cell? ⟨w.heap.size, 0, none⟩ = some (.int .i64 k) := by go_simp
 have d1 : (((((w2.setCell ⟨w.heap.size, 0, none⟩ (.int .i64 k)).setCell ⟨w.heap.size, 1, none⟩ (.int .i64 n)).setCell ⟨w.heap.size, 2, none⟩ (.string s)).setCell ⟨w.heap.size, 3, none⟩ (.slice ad len cap)).alloc (.cells #[.int .i64 k, .int .i64 n, .string s, .slice ad len cap] 88)).cell? ⟨w.heap.size, 1, none⟩ = some (.int .i64 n) := by go_simp
 have d2 : (((((w2.setCell ⟨w.heap.size, 0, none⟩ (.int .i64 k)).setCell ⟨w.heap.size, 1, none⟩ (.int .i64 n)).setCell ⟨w.heap.size, 2, none⟩ (.string s)).setCell ⟨w.heap.size, 3, none⟩ (.slice ad len cap)).alloc (.cells #[.int .i64 k, .int .i64 n, .string s, .slice ad len cap] 88)).cell? ⟨w.heap.size, 2, none⟩ = some (.string s) := by go_simp
 have d3 : (((((w2.setCell ⟨w.heap.size, 0, none⟩ (.int .i64 k)).setCell ⟨w.heap.size, 1, none⟩ (.int .i64 n)).setCell ⟨w.heap.size, 2, none⟩ (.string s)).setCell ⟨w.heap.size, 3, none⟩ (.slice ad len cap)).alloc (.cells #[.int .i64 k, .int .i64 n, .string s, .slice ad len cap] 88)).cell? ⟨w.heap.size, 3, none⟩ = some (.slice ad len cap) := by go_simp
 refine bodyPost_ret (v := .tuple #[.agg #[.int .i64 k, .int .i64 n, .string s, .slice ad len cap], .int .i64 0]) (by simp [results, Tryz.results47, go_sem, d0, d1, d2, d3]) rfl ⟨⟨ad, cap, rfl, ?_⟩, (((((HB2.out.setCell (by simp) _).setCell (by simp) _).setCell (by simp) _).setCell (by simp) _).alloc (by simp; omega) _)⟩
 refine HP.out _ _ _ _ HPP.out (fun j hj hl => ?_)
 rw [heap_alloc_old _ _ (by simpa using hl)]
 rw [heap_setCell_other _ _ _ _ hj, heap_setCell_other _ _ _ _ hj, heap_setCell_other _ _ _ _ hj, heap_setCell_other _ _ _ _ hj]
theorem All_p (t : ByteArray) (w : World) (hs : t.size ≤ 9223372036854775807) (hlib : LibAt w) :
  Calls Tryz.prog 47 #[.string t] w (AllV (allR t) w) := by
 have hb0 : Below w.heap.size w (w.alloc (.cells #[.int .i64 0, .int .i64 0, .string ⟨#[]⟩, .slice none 0 0] 88)) := (Below.refl _ _).alloc (Nat.le_refl _) _
 have H := Get_p t (w.alloc (.cells #[.int .i64 0, .int .i64 0, .string ⟨#[]⟩, .slice none 0 0] 88)) hs (hlib.below hb0)
 unfold allR
 have he : ∀ e, getR t = .error e → e = 1 ∨ e = 2 := fun e h => getP_err 6 t 6000 e h
 generalize getR t = r at *
 unfold GetV at H
 cases r with
 | error e =>
  have := he e rfl
  refine (all_bad t w 0 0 0 e ⟨#[]⟩ 0 (.inl (by omega)) (H.mono fun x w' h => ⟨⟨none, 0, h.2⟩, h.1⟩)).mono ?_
  rintro x w' ⟨rfl, h⟩
  exact ⟨h, rfl⟩
 | ok x =>
  simp only
  by_cases hb : x.b = t.size
  ·rw [if_pos hb]
   refine (all_good t w x.k x.n x.b x.s x.l.len (by omega) (fun ad _ w' => RepG w' (fun b => w.heap.size < b) ad x.l) (fun ad cap w1 w2 h hh => h.to (fun b hb hl => ⟨hb, hh b (by omega) hl⟩)) (H.mono fun e w' ⟨h1, ad, cap, h2, h3⟩ => ⟨⟨ad, cap, h2, h3.to (fun b hb _ => ⟨by simp at hb; omega, rfl⟩)⟩, h1⟩)).mono ?_
   rintro e w' ⟨⟨ad, cap, rfl, hg⟩, h1⟩
   exact ⟨h1, ad, cap, rfl, hg.to (fun b hb _ => ⟨by omega, rfl⟩)⟩
  ·rw [if_neg hb]
   refine (all_bad t w x.k x.n x.b 0 x.s x.l.len (.inr (by omega)) (H.mono fun e w' ⟨h1, ad, cap, h2, h3⟩ => ⟨⟨ad, cap, h2⟩, h1⟩)).mono ?_
   rintro e w' ⟨rfl, h⟩
   exact ⟨h, rfl⟩
def GetAns (t : ByteArray) (e : Ending) : Prop :=
 ∃ r : Option De, (e = match r with | some d => .returned (.tuple #[dagg d, .int .i64 0]) | none => .returned (.tuple #[dagg De.zero, .int .i64 1])) ∧
  ∀ d, r = some d ↔ (mayD d ∧ d.wf ∧ t = putV 3 0 ⟨#[]⟩ d.parts)
theorem allR_trip {d : De} (h : d.wf) (hm : mayD d) : allR (putV 3 0 ⟨#[]⟩ d.parts) = .ok ⟨3, 0, ⟨#[]⟩, d.parts, (putV 3 0 ⟨#[]⟩ d.parts).size, 1 + d.parts.cnt⟩ := by
 have := De.trip h hm ⟨#[]⟩
 rw [append_none] at this
 unfold allR
 rw [this]
 simp
theorem allR_inv {t : ByteArray} {x : G} (h : allR t = .ok x) : getR t = .ok x ∧ x.b = t.size := by
 unfold allR at h
 split at h
 ·split at h
  ·rename_i h1 h2
   cases h
   exact ⟨h1, h2⟩
  ·cases h
 ·cases h
theorem parts_wf_inv {d : De} (h : d.parts.wf) : d.wf := by
 obtain ⟨a0, _, _, _, _, _, a3, _, a4, _, _, _, a6, _, a7, _⟩ := h
 exact ⟨a0, a3, a4, a6, a7⟩
theorem get_none {t : ByteArray} {e : Nat} (h : allR t = .error e) (d : De) : ¬ (mayD d ∧ d.wf ∧ t = putV 3 0 ⟨#[]⟩ d.parts) := by
 rintro ⟨h1, h2, rfl⟩
 rw [allR_trip h2 h1] at h
 cases h
theorem ext_all (t : ByteArray) : t.extract 0 t.size = t := by
 apply ByteArray.ext
 rw [ByteArray.data_extract]
 exact Array.extract_size ..
theorem get_some {t : ByteArray} {x : G} (h : allR t = .ok x) (d : De) : (mayD d ∧ x.k = 3 ∧ x.n = 0 ∧ x.s = ⟨#[]⟩ ∧ x.l = d.parts) ↔ (mayD d ∧ d.wf ∧ t = putV 3 0 ⟨#[]⟩ d.parts) := by
 constructor
 ·rintro ⟨h1, h2, h3, h4, h5⟩
  obtain ⟨g1, g2⟩ := allR_inv h
  obtain ⟨_, i2, _, _, _, i6⟩ := getR_inv g1
  rw [g2, h2, h3, h4, h5] at i2
  rw [h5] at i6
  refine ⟨h1, parts_wf_inv i6, ?_⟩
  unfold putS at i2
  rw [if_pos (De.vmay d)] at i2
  rw [i2]
  exact (ext_all t).symm
 ·rintro ⟨h1, h2, rfl⟩
  rw [allR_trip h2 h1] at h
  cases h
  exact ⟨h1, rfl, rfl, rfl, rfl⟩
theorem get_cnt {t : ByteArray} {x : G} (h : allR t = .ok x) : x.l.cnt ≤ 1000000 ∧ x.l.wf := by
 obtain ⟨i1, _, _, _, _, i6⟩ := getR_inv (allR_inv h).1
 refine ⟨?_, i6⟩
 unfold vmay vmayB at i1
 simp only [Bool.and_eq_true, decide_eq_true_eq] at i1
 omega
theorem dget_p (t : ByteArray) (hs : t.size ≤ 9223372036854775807) (w : World) (hlib : LibAt w) :
  Calls Tryz.prog 18 #[.string t] w fun e w' => GetAns t e ∧ Below w.heap.size w w' := by
 have HP := Lib.hid (fun W (h : LibAt W) => All_p t W hs h)
 have HLB := Lib.hid hlib
 have HB := Lib.hid (show Below w.heap.size w (w.alloc (.cells #[.int .i64 0, .string ⟨#[]⟩, .string ⟨#[]⟩, .int .i64 0, .int .i64 0, .string ⟨#[]⟩, .int .i64 0, .int .i64 0] 35)) from (Below.refl _ _).alloc (Nat.le_refl _) _)
 have HRD : Hid (∀ W, Below (w.heap.size + 1) (w.alloc (.cells #[.int .i64 0, .string ⟨#[]⟩, .string ⟨#[]⟩, .int .i64 0, .int .i64 0, .string ⟨#[]⟩, .int .i64 0, .int .i64 0] 35)) W → DeC W w.heap.size De.zero ∧ DeW W w.heap.size) := Lib.hid (by
  intro W hW
  have hW' := hW
  rw [show w.heap.size + 1 = (w.alloc (.cells #[.int .i64 0, .string ⟨#[]⟩, .string ⟨#[]⟩, .int .i64 0, .int .i64 0, .string ⟨#[]⟩, .int .i64 0, .int .i64 0] 35)).heap.size by simp] at hW'
  refine ⟨DeC.below (DeC.new w De.zero 35) hW', DeW.below ?_ (by simp) hW'⟩
  refine ⟨?_, ?_, ?_, ?_, ?_, ?_, ?_, ?_⟩ <;> go_simp)
 have hsz : (w.alloc (.cells #[.int .i64 0, .string ⟨#[]⟩, .string ⟨#[]⟩, .int .i64 0, .int .i64 0, .string ⟨#[]⟩, .int .i64 0, .int .i64 0] 35)).heap.size = w.heap.size + 1 := by simp
 clear hs hlib
 cases hx : allR t with
 | error e =>
  have hA : GetAns t (.returned (.tuple #[dagg De.zero, .int .i64 1])) := ⟨none, rfl, fun d => ⟨fun h => (by cases h), fun h => absurd h (get_none hx d)⟩⟩
  have HA := Lib.hid hA
  unfold dagg De.zero at HA
  rw [hx] at HP
  unfold AllV at HP
  clear hA hx
  go_enter Tryz.func18, Tryz.ntmps18
  go_wp2_with fail
  refine (HP.out _ (HLB.out.below HB.out)).mono ?_
  rintro _ W1 ⟨hb1, rfl⟩
  have HB1 := Lib.hid (HB.out.trans (hb1.mono HB.out.size))
  have HX1 := Lib.hid (hsz ▸ hb1)
  have hs1 : w.heap.size < W1.heap.size := by have := hb1.size; omega
  have hne : ¬ W1.heap.size = w.heap.size := by omega
  have hne' : ¬ w.heap.size = W1.heap.size := by omega
  clear hb1
  obtain ⟨x0, x1, x2, x3, x4, x5, x6, x7⟩ := (HRD.out _ HX1.out).1
  obtain ⟨y0, y1, y2, y3, y4, y5, y6, y7⟩ := (HRD.out _ HX1.out).2
  dsimp only [De.zero] at x0 x1 x2 x3 x4 x5 x6 x7
  go_wp2_with fail
  have hC0 := putD_de (HRD.out _ HX1.out).1 (HRD.out _ HX1.out).2 De.zero
  have hB0 := putD_below HB1.out (Nat.le_refl w.heap.size) De.zero
  have hC := hC0.below ((Below.refl _ _).alloc (Nat.le_refl _) (.cells #[.int .i64 0, .int .i64 0, .string ⟨#[]⟩, .slice none 0 0] 88))
  have hB := hB0.alloc hB0.size (.cells #[.int .i64 0, .int .i64 0, .string ⟨#[]⟩, .slice none 0 0] 88)
  clear hC0 hB0
  unfold De.zero at hC hB
  dsimp only at hC hB
  generalize ((((((((W1.setCell ⟨w.heap.size, 0, none⟩ (.int .i64 0)).setCell ⟨w.heap.size, 1, none⟩ (.string ⟨#[]⟩)).setCell ⟨w.heap.size, 2, none⟩ (.string ⟨#[]⟩)).setCell ⟨w.heap.size, 3, none⟩ (.int .i64 0)).setCell ⟨w.heap.size, 4, none⟩ (.int .i64 0)).setCell ⟨w.heap.size, 5, none⟩ (.string ⟨#[]⟩)).setCell ⟨w.heap.size, 6, none⟩ (.int .i64 0)).setCell ⟨w.heap.size, 7, none⟩ (.int .i64 0)).alloc (.cells #[.int .i64 0, .int .i64 0, .string ⟨#[]⟩, .slice none 0 0] 88) = W4 at *
  obtain ⟨t0, t1, t2, t3, t4, t5, t6, t7⟩ := hC
  dsimp only at t0 t1 t2 t3 t4 t5 t6 t7
  exact bodyPost_ret (v := .tuple #[.agg #[.int .i64 0, .string ⟨#[]⟩, .string ⟨#[]⟩, .int .i64 0, .int .i64 0, .string ⟨#[]⟩, .int .i64 0, .int .i64 0], .int .i64 1]) (by simp [results, Tryz.results18, go_sem, t0, t1, t2, t3, t4, t5, t6, t7]) rfl ⟨HA.out, hB⟩
 | ok x =>
  obtain ⟨hcnt, hwf⟩ := get_cnt hx
  have HOF := Lib.hid (fun (ad : Option Addr) cap W hr ht he => dof_p x.k x.n x.s x.l ad cap W hcnt hwf hr ht he)
  have HGS := Lib.hid (get_some hx)
  rw [hx] at HP
  unfold AllV at HP
  unfold OfAns at HOF
  clear hx hcnt hwf
  go_enter Tryz.func18, Tryz.ntmps18
  go_wp2_with fail
  refine (HP.out _ (HLB.out.below HB.out)).mono ?_
  rintro _ W1 ⟨hb1, ad, cap, rfl, hg⟩
  have HB1 := Lib.hid (HB.out.trans (hb1.mono HB.out.size))
  have HX1 := Lib.hid (hsz ▸ hb1)
  have HG : Hid (RepG W1 (fun _ => True) ad x.l) := Lib.hid (RepG.to hg (fun _ _ _ => ⟨trivial, rfl⟩))
  have hs1 : w.heap.size + 1 ≤ W1.heap.size := by have := hb1.size; omega
  clear hb1 hg
  have HBA : Hid (Below w.heap.size w (W1.alloc (.cells #[.int .i64 x.k, .int .i64 x.n, .string x.s, .slice ad x.l.len cap] 88))) := Lib.hid (HB1.out.alloc HB1.out.size _)
  have HXA : Hid (Below (w.heap.size + 1) _ (W1.alloc (.cells #[.int .i64 x.k, .int .i64 x.n, .string x.s, .slice ad x.l.len cap] 88))) := Lib.hid (HX1.out.alloc (by omega) _)
  have HGA : Hid (RepG (W1.alloc (.cells #[.int .i64 x.k, .int .i64 x.n, .string x.s, .slice ad x.l.len cap] 88)) (fun _ => True) ad x.l) := Lib.hid (HG.out.to (fun j _ hj => ⟨trivial, heap_alloc_old _ _ hj⟩))
  go_wp2_with fail
  refine (HOF.out ad cap _ HGA.out (HLB.out.1.below HBA.out) (HLB.out.2.1.below HBA.out)).mono ?_
  rintro _ W2 ⟨⟨r, he, hr⟩, hb2⟩
  have HB2 := Lib.hid (HBA.out.trans (hb2.mono HBA.out.size))
  have HX2 := Lib.hid (HXA.out.trans (hb2.mono (by simp; omega)))
  have hs2 : w.heap.size < W2.heap.size := by have := hb2.size; simp at this; omega
  have hne2 : ¬ W2.heap.size = w.heap.size := by omega
  have hne2' : ¬ w.heap.size = W2.heap.size := by omega
  clear hb2
  cases r with
  | none =>
   dsimp only at he
   subst he
   have hA : GetAns t (.returned (.tuple #[dagg De.zero, .int .i64 1])) := ⟨none, rfl, fun d => (hr d).trans (HGS.out d)⟩
   have HA := Lib.hid hA
   unfold dagg De.zero at HA ⊢
   clear hA hr
   dsimp only
   obtain ⟨x0, x1, x2, x3, x4, x5, x6, x7⟩ := (HRD.out _ HX2.out).1
   obtain ⟨y0, y1, y2, y3, y4, y5, y6, y7⟩ := (HRD.out _ HX2.out).2
   dsimp only [De.zero] at x0 x1 x2 x3 x4 x5 x6 x7
   go_wp2_with fail
   have hC0 := putD_de (HRD.out _ HX2.out).1 (HRD.out _ HX2.out).2 De.zero
   have hB0 := putD_below HB2.out (Nat.le_refl w.heap.size) De.zero
   have hC := hC0.below ((Below.refl _ _).alloc (Nat.le_refl _) (.cells #[.int .i64 0, .string ⟨#[]⟩, .string ⟨#[]⟩, .int .i64 0, .int .i64 0, .string ⟨#[]⟩, .int .i64 0, .int .i64 0] 35))
   have hB := hB0.alloc hB0.size (.cells #[.int .i64 0, .string ⟨#[]⟩, .string ⟨#[]⟩, .int .i64 0, .int .i64 0, .string ⟨#[]⟩, .int .i64 0, .int .i64 0] 35)
   clear hC0 hB0
   unfold De.zero at hC hB
   dsimp only at hC hB
   generalize ((((((((W2.setCell ⟨w.heap.size, 0, none⟩ (.int .i64 0)).setCell ⟨w.heap.size, 1, none⟩ (.string ⟨#[]⟩)).setCell ⟨w.heap.size, 2, none⟩ (.string ⟨#[]⟩)).setCell ⟨w.heap.size, 3, none⟩ (.int .i64 0)).setCell ⟨w.heap.size, 4, none⟩ (.int .i64 0)).setCell ⟨w.heap.size, 5, none⟩ (.string ⟨#[]⟩)).setCell ⟨w.heap.size, 6, none⟩ (.int .i64 0)).setCell ⟨w.heap.size, 7, none⟩ (.int .i64 0)).alloc (.cells #[.int .i64 0, .string ⟨#[]⟩, .string ⟨#[]⟩, .int .i64 0, .int .i64 0, .string ⟨#[]⟩, .int .i64 0, .int .i64 0] 35) = W4 at *
   obtain ⟨t0, t1, t2, t3, t4, t5, t6, t7⟩ := hC
   dsimp only at t0 t1 t2 t3 t4 t5 t6 t7
   exact bodyPost_ret (v := .tuple #[.agg #[.int .i64 0, .string ⟨#[]⟩, .string ⟨#[]⟩, .int .i64 0, .int .i64 0, .string ⟨#[]⟩, .int .i64 0, .int .i64 0], .int .i64 1]) (by simp [results, Tryz.results18, go_sem, t0, t1, t2, t3, t4, t5, t6, t7]) rfl ⟨HA.out, hB⟩
  | some d =>
   dsimp only at he
   subst he
   have hA : GetAns t (.returned (.tuple #[dagg d, .int .i64 0])) := ⟨some d, rfl, fun d => (hr d).trans (HGS.out d)⟩
   have HA := Lib.hid hA
   unfold dagg at HA ⊢
   clear hA hr
   try dsimp only
   obtain ⟨x0, x1, x2, x3, x4, x5, x6, x7⟩ := (HRD.out _ HX2.out).1
   obtain ⟨y0, y1, y2, y3, y4, y5, y6, y7⟩ := (HRD.out _ HX2.out).2
   dsimp only [De.zero] at x0 x1 x2 x3 x4 x5 x6 x7
   go_wp2_with fail
   have hC0 := putD_de (HRD.out _ HX2.out).1 (HRD.out _ HX2.out).2 d
   have hB0 := putD_below HB2.out (Nat.le_refl w.heap.size) d
   have hC := hC0.below ((Below.refl _ _).alloc (Nat.le_refl _) (.cells #[.int .i64 d.kind, .string d.key, .string d.body, .int .i64 d.ver, .int .i64 d.cond, .string d.tag, .int .i64 d.req, .int .i64 d.low] 35))
   have hB := hB0.alloc hB0.size (.cells #[.int .i64 d.kind, .string d.key, .string d.body, .int .i64 d.ver, .int .i64 d.cond, .string d.tag, .int .i64 d.req, .int .i64 d.low] 35)
   clear hC0 hB0
   skip
   try dsimp only at hC hB
   generalize ((((((((W2.setCell ⟨w.heap.size, 0, none⟩ (.int .i64 d.kind)).setCell ⟨w.heap.size, 1, none⟩ (.string d.key)).setCell ⟨w.heap.size, 2, none⟩ (.string d.body)).setCell ⟨w.heap.size, 3, none⟩ (.int .i64 d.ver)).setCell ⟨w.heap.size, 4, none⟩ (.int .i64 d.cond)).setCell ⟨w.heap.size, 5, none⟩ (.string d.tag)).setCell ⟨w.heap.size, 6, none⟩ (.int .i64 d.req)).setCell ⟨w.heap.size, 7, none⟩ (.int .i64 d.low)).alloc (.cells #[.int .i64 d.kind, .string d.key, .string d.body, .int .i64 d.ver, .int .i64 d.cond, .string d.tag, .int .i64 d.req, .int .i64 d.low] 35) = W4 at *
   obtain ⟨t0, t1, t2, t3, t4, t5, t6, t7⟩ := hC
   try dsimp only at t0 t1 t2 t3 t4 t5 t6 t7
   exact bodyPost_ret (v := .tuple #[.agg #[.int .i64 d.kind, .string d.key, .string d.body, .int .i64 d.ver, .int .i64 d.cond, .string d.tag, .int .i64 d.req, .int .i64 d.low], .int .i64 0]) (by simp [results, Tryz.results18, go_sem, t0, t1, t2, t3, t4, t5, t6, t7]) rfl ⟨HA.out, hB⟩
def isI (n : Int) : Prop := -9223372036854775808 ≤ n ∧ n ≤ 9223372036854775807
theorem F.th_wf : ∀ (f : F) (j : Nat), f.wf → isI (f.th j).n ∧ (f.th j).l.wf
 | .nil, _, _ => ⟨by unfold isI F.th; decide, trivial⟩
 | .cons _ _ _ _ _, 0, h => ⟨h.1, h.2.1⟩
 | .cons _ _ _ _ r, j + 1, h => F.th_wf r j h.2.2
theorem F.list_wf : ∀ (f : F) (x : V4), f.wf → x ∈ F.list f → isI x.n ∧ x.l.wf
 | .nil, _, _, h => by cases h
 | .cons _ _ _ _ r, x, h, hx => by
  simp only [F.list, List.mem_cons] at hx
  rcases hx with rfl | hx
  ·exact ⟨h.1, h.2.1⟩
  ·exact F.list_wf r x h.2.2 hx
theorem F.ofL_wf : ∀ (l : List V4), (∀ x ∈ l, isI x.n ∧ x.l.wf) → (F.ofL l).wf
 | [], _ => trivial
 | x :: r, h => ⟨(h x (List.mem_cons_self ..)).1, (h x (List.mem_cons_self ..)).2, F.ofL_wf r (fun y hy => h y (List.mem_cons_of_mem _ hy))⟩
theorem isI0 : isI 0 := by unfold isI; decide
theorem num_wf {n : Int} (h : isI n) : isI (b4num n).n ∧ (b4num n).l.wf := ⟨h, trivial⟩
theorem str_wf (s : ByteArray) : isI (b4str s).n ∧ (b4str s).l.wf := ⟨isI0, trivial⟩
theorem list_wf {l : List V4} (h : ∀ x ∈ l, isI x.n ∧ x.l.wf) : isI (b4list l).n ∧ (b4list l).l.wf := ⟨isI0, F.ofL_wf l h⟩
structure Bk.wf4 (s : Bk) : Prop where
 seq : isI s.seq
 vers : ∀ e ∈ s.l, ∀ v ∈ e.vs, isI v.ver
 ms : ∀ m ∈ s.ms, isI m.req ∧ isI m.res.err ∧ isI m.res.ver
 lows : ∀ n ∈ lowL s, isI n
theorem Bk.wf4.wf {s : Bk} (h : s.wf4) : s.wf := ⟨h.seq, fun m hm => (h.ms m hm).1, h.lows _ (by simp [lowL]), h.lows _ (by simp [lowL]), h.lows _ (by simp [lowL]), h.lows _ (by simp [lowL]), h.lows _ (by simp [lowL])⟩
theorem ver_wf {v : Ve} (h : isI v.ver) : isI (b4ver v).n ∧ (b4ver v).l.wf := by
 refine list_wf (fun x hx => ?_)
 simp only [List.mem_cons, List.not_mem_nil, or_false] at hx
 rcases hx with rfl | rfl | rfl
 ·exact num_wf h
 ·refine num_wf ?_
  cases v.gone <;> (unfold isI; decide)
 ·exact str_wf _
theorem mem_wf {m : Me} (h : isI m.req ∧ isI m.res.err ∧ isI m.res.ver) : isI (b4mem m).n ∧ (b4mem m).l.wf := by
 refine list_wf (fun x hx => ?_)
 simp only [List.mem_cons, List.not_mem_nil, or_false] at hx
 rcases hx with rfl | rfl | rfl
 ·exact num_wf h.1
 ·exact num_wf h.2.1
 ·exact num_wf h.2.2
theorem ent_wf {e : En} (h : ∀ v ∈ e.vs, isI v.ver) : isI (b4ent e).n ∧ (b4ent e).l.wf := by
 refine list_wf (fun x hx => ?_)
 simp only [List.mem_cons, List.not_mem_nil, or_false] at hx
 rcases hx with rfl | rfl
 ·exact str_wf _
 ·refine list_wf (fun y hy => ?_)
  obtain ⟨v, hv, rfl⟩ := List.mem_map.1 hy
  exact ver_wf (h v hv)
theorem Bk.wf4.tree {s : Bk} (h : s.wf4) : (b4book s).l.wf := by
 refine F.ofL_wf _ (fun x hx => ?_)
 simp only [List.mem_cons, List.not_mem_nil, or_false] at hx
 rcases hx with rfl | rfl | rfl | rfl
 ·exact num_wf h.seq
 ·refine list_wf (fun y hy => ?_)
  obtain ⟨e, he, rfl⟩ := List.mem_map.1 hy
  exact ent_wf (h.vers e he)
 ·refine list_wf (fun y hy => ?_)
  obtain ⟨m, hm, rfl⟩ := List.mem_map.1 hy
  exact mem_wf (h.ms m hm)
 ·refine list_wf (fun y hy => ?_)
  obtain ⟨n, hn, rfl⟩ := List.mem_map.1 hy
  exact num_wf (h.lows n hn)
theorem bookOf4_wf {x : V4} (h : x.l.wf) : (bookOf4 x).wf4 := by
 refine ⟨(F.th_wf _ _ h).1, fun e he v hv => ?_, fun m hm => ?_, fun n hn => ?_⟩
 ·obtain ⟨y, hy, rfl⟩ := List.mem_map.1 he
  obtain ⟨z, hz, rfl⟩ := List.mem_map.1 hv
  have h1 := (F.list_wf _ y (F.th_wf _ _ h).2 hy).2
  have h2 := (F.list_wf _ z (F.th_wf _ _ h1).2 hz).2
  exact (F.th_wf _ _ h2).1
 ·obtain ⟨y, hy, rfl⟩ := List.mem_map.1 hm
  have h1 := (F.list_wf _ y (F.th_wf _ _ h).2 hy).2
  exact ⟨(F.th_wf _ _ h1).1, (F.th_wf _ _ h1).1, (F.th_wf _ _ h1).1⟩
 ·have h3 := (F.th_wf x.l 3 h).2
  simp only [lowL, bookOf4, List.mem_cons, List.not_mem_nil, or_false] at hn
  rcases hn with rfl | rfl | rfl | rfl | rfl <;> exact (F.th_wf _ _ h3).1
theorem verOf_ver (v : Ve) : verOf4 (b4ver v) = v := by
 obtain ⟨ver, gone, body⟩ := v
 cases gone <;> rfl
theorem map_id {α β : Type} (l : List α) (f : α → β) (g : β → α) (h : ∀ x, g (f x) = x) : (l.map f).map g = l := by
 induction l with
 | nil => rfl
 | cons x r ih => simp only [List.map_cons, h, ih]
theorem entOf_ent (e : En) : entOf4 (b4ent e) = e := by
 obtain ⟨key, vs⟩ := e
 show En.mk key ((F.list (F.ofL (vs.map b4ver))).map verOf4) = _
 rw [F.list_ofL, map_id _ _ _ verOf_ver]
theorem bookOf_book (s : Bk) : bookOf4 (b4book s) = s := by
 obtain ⟨seq, l, ms, l1, l2, l3, l4, l5⟩ := s
 show Bk.mk seq ((F.list (F.ofL (l.map b4ent))).map entOf4) ((F.list (F.ofL (ms.map b4mem))).map memOf4) l1 l2 l3 l4 l5 = _
 rw [F.list_ofL, F.list_ofL, map_id _ _ _ entOf_ent, map_id ms b4mem memOf4 (fun _ => rfl)]
theorem bookOf_short {x : V4} (h : x.l.cnt ≤ 1000000) : (bookOf4 x).l.length ≤ 1000000 ∧ (bookOf4 x).ms.length ≤ 1000000 ∧ ∀ e ∈ (bookOf4 x).l, e.vs.length ≤ 1000000 := by
 have h1 := Nat.le_trans (F.th_cnt x.l 1) h
 have h2 := Nat.le_trans (F.th_cnt x.l 2) h
 refine ⟨?_, ?_, fun e he => ?_⟩
 ·show ((F.list (x.l.th 1).l).map entOf4).length ≤ _
  rw [List.length_map, F.list_len]
  exact Nat.le_trans (F.len_le_cnt _) h1
 ·show ((F.list (x.l.th 2).l).map memOf4).length ≤ _
  rw [List.length_map, F.list_len]
  exact Nat.le_trans (F.len_le_cnt _) h2
 ·obtain ⟨y, hy, rfl⟩ := List.mem_map.1 he
  show ((F.list (y.l.th 1).l).map verOf4).length ≤ _
  rw [List.length_map, F.list_len]
  exact Nat.le_trans (F.len_le_cnt _) (Nat.le_trans (F.th_cnt y.l 1) (Nat.le_trans (F.list_cnt _ y hy) h1))
def readB (t : ByteArray) : Option Bk := match allR t with
 | .error _ => none
 | .ok x => if b4put (bookOf4 ⟨x.k, x.n, x.s, x.l⟩) = t then some (bookOf4 ⟨x.k, x.n, x.s, x.l⟩) else none
def ReadAns (r : Option Bk) (w : World) (e : Ending) (w' : World) : Prop := Below w.heap.size w w' ∧ match r with
 | none => e = .returned (.tuple #[bagg Bk.zero (.slice none 0 0) (.slice none 0 0), .int .i64 1])
 | some s => ∃ ad cap ad' cap', e = .returned (.tuple #[bagg s (.slice ad s.l.length cap) (.slice ad' s.ms.length cap'), .int .i64 0]) ∧ EOwn w' w.heap.size (.slice ad s.l.length cap) s.l ∧ MOwn w' w.heap.size (.slice ad' s.ms.length cap') s.ms
theorem bread_p (t : ByteArray) (w : World) (ht : t.size ≤ 9223372036854775807) (hlib : LibAt w) :
  Calls Tryz.prog 21 #[.string t] w (ReadAns (readB t) w) := by
 have HP := Lib.hid (fun W (h : LibAt W) => All_p t W ht h)
 have HLB := Lib.hid hlib
 have HB := Lib.hid (show Below w.heap.size w (w.alloc (.cells (bcells Bk.zero (.slice none 0 0) (.slice none 0 0)) 27)) from (Below.refl _ _).alloc (Nat.le_refl _) _)
 have HZ := Lib.hid (BC.new w Bk.zero (.slice none 0 0) (.slice none 0 0))
 have hsz : (w.alloc (.cells (bcells Bk.zero (.slice none 0 0) (.slice none 0 0)) 27)).heap.size = w.heap.size + 1 := by simp
 unfold readB
 clear ht hlib
 cases hx : allR t with
 | error e =>
  dsimp only
  rw [hx] at HP
  unfold AllV at HP
  unfold ReadAns bagg
  dsimp only [Bk.zero]
  clear hx
  unfold bcells at *
  dsimp only [Bk.zero] at *
  go_enter Tryz.func21, Tryz.ntmps21
  go_wp2_with fail
  refine (HP.out _ (HLB.out.below HB.out)).mono ?_
  rintro _ W1 ⟨hb1, rfl⟩
  have HB1 := Lib.hid (HB.out.trans (hb1.mono HB.out.size))
  have HZ1 := Lib.hid (BC.below HZ.out hb1)
  clear hb1
  obtain ⟨x0, x1, x2, x3, x4, x5, x6, x7⟩ := HZ1.out.cells
  dsimp only [Bk.zero] at x0 x1 x2 x3 x4 x5 x6 x7
  have f0 := HZ1.out.free 0
  have f1 := HZ1.out.free 1
  have f2 := HZ1.out.free 2
  have f3 := HZ1.out.free 3
  have f4 := HZ1.out.free 4
  have f5 := HZ1.out.free 5
  have f6 := HZ1.out.free 6
  have f7 := HZ1.out.free 7
  have hne := HZ1.out.lt
  go_wp2_with fail
  have hst := BC.store (s' := Bk.zero) (u' := .slice none 0 0) (v' := .slice none 0 0) HZ1.out
  have hC := hst.below ((Below.refl _ _).alloc (Nat.le_refl _) (.cells #[.int .i64 0, .int .i64 0, .string ⟨#[]⟩, .slice none 0 0] 88))
  have hB0 := bstore_below Bk.zero (.slice none 0 0) (.slice none 0 0) (Nat.le_refl w.heap.size) HB1.out
  have hB := hB0.alloc hB0.size (.cells #[.int .i64 0, .int .i64 0, .string ⟨#[]⟩, .slice none 0 0] 88)
  unfold bstore at hC hB
  dsimp only [Bk.zero] at hC hB
  clear hst hB0
  generalize ((((((((W1.setCell ⟨w.heap.size, 0, none⟩ (.int .i64 0)).setCell ⟨w.heap.size, 1, none⟩ (.slice none 0 0)).setCell ⟨w.heap.size, 2, none⟩ (.slice none 0 0)).setCell ⟨w.heap.size, 3, none⟩ (.int .i64 0)).setCell ⟨w.heap.size, 4, none⟩ (.int .i64 0)).setCell ⟨w.heap.size, 5, none⟩ (.int .i64 0)).setCell ⟨w.heap.size, 6, none⟩ (.int .i64 0)).setCell ⟨w.heap.size, 7, none⟩ (.int .i64 0)).alloc (.cells #[.int .i64 0, .int .i64 0, .string ⟨#[]⟩, .slice none 0 0] 88) = W4 at *
  obtain ⟨t0, t1, t2, t3, t4, t5, t6, t7⟩ := BC.cells (s := Bk.zero) hC
  dsimp only [Bk.zero] at t0 t1 t2 t3 t4 t5 t6 t7
  exact bodyPost_ret (v := .tuple #[.agg #[.int .i64 0, .slice none 0 0, .slice none 0 0, .int .i64 0, .int .i64 0, .int .i64 0, .int .i64 0, .int .i64 0], .int .i64 1]) (by simp [results, Tryz.results21, go_sem, t0, t1, t2, t3, t4, t5, t6, t7]) rfl ⟨hB, rfl⟩
 | ok x =>
  dsimp only
  obtain ⟨hcnt, hwf⟩ := get_cnt hx
  have HOF := Lib.hid (fun (ad : Option Addr) cap W hr => bookof_p ⟨x.k, x.n, x.s, x.l⟩ ad cap W hr hcnt)
  have hw4 := bookOf4_wf (x := ⟨x.k, x.n, x.s, x.l⟩) hwf
  have hsh := bookOf_short (x := ⟨x.k, x.n, x.s, x.l⟩) hcnt
  have HPU := Lib.hid (fun (u v : Value) W (he : EsAt W u (bookOf4 ⟨x.k, x.n, x.s, x.l⟩).l) (hm : MsAt W v (bookOf4 ⟨x.k, x.n, x.s, x.l⟩).ms) (hp : PowAt W) => bput_p (bookOf4 ⟨x.k, x.n, x.s, x.l⟩) u v W ⟨he, hm, hsh.1, hsh.2.1, hsh.2.2⟩ hw4.wf hw4.tree hp)
  rw [hx] at HP
  unfold AllV at HP
  unfold BAns at HOF
  dsimp only at HOF
  generalize bookOf4 ⟨x.k, x.n, x.s, x.l⟩ = s at *
  generalize b4put s = T at *
  clear hx hcnt hwf hw4 hsh
  unfold bagg at HOF HPU
  obtain ⟨n1, hn1⟩ : ∃ n, s.l.length = n := ⟨_, rfl⟩
  obtain ⟨n2, hn2⟩ : ∃ n, s.ms.length = n := ⟨_, rfl⟩
  have HN := Lib.hid (And.intro hn1 hn2)
  rw [hn1, hn2] at HOF
  clear hn1 hn2
  unfold bcells at *
  dsimp only [Bk.zero] at *
  by_cases hT : T = t
  all_goals
   first | rw [if_pos hT] | rw [if_neg hT]
   first | (have HTE : (T.toList == t.toList) = true := by rw [hT]; simp) | (have HTE : (T.toList == t.toList) = false := beq_eq_false_iff_ne.2 (fun e => hT (by rw [ByteArray.toList_eq, ByteArray.toList_eq] at e; exact ByteArray.ext (Array.ext' e))))
   clear hT
   unfold ReadAns bagg
   dsimp only [Bk.zero]
   try rw [HN.out.1, HN.out.2]
   go_enter Tryz.func21, Tryz.ntmps21
   go_wp2_with fail
   refine (HP.out _ (HLB.out.below HB.out)).mono ?_
   rintro _ W1 ⟨hb1, ad, cap, rfl, hg⟩
   have HB1 := Lib.hid (HB.out.trans (hb1.mono HB.out.size))
   have HZ1 := Lib.hid (BC.below (s := Bk.zero) HZ.out hb1)
   have HG1 := Lib.hid ((RepG.any hg).down ((Below.refl _ W1).alloc (Nat.le_refl _) (.cells #[.int .i64 x.k, .int .i64 x.n, .string x.s, .slice ad x.l.len cap] 88)))
   have hlt1 := HZ1.out.lt
   clear hb1 hg
   go_wp2_with fail
   refine (HOF.out ad cap _ HG1.out).mono ?_
   rintro _ W2 ⟨a1, c1, a2, c2, rfl, ho1, ho2, hb2⟩
   have hb2' : Below W1.heap.size W1 W2 := ((Below.refl _ W1).alloc (Nat.le_refl _) _).trans (hb2.mono (by simp))
   have HB2 := Lib.hid (HB1.out.trans (hb2'.mono HB1.out.size))
   have HZ2 := Lib.hid (BC.below (s := Bk.zero) HZ1.out hb2')
   have HO2 := Lib.hid (And.intro (ho1.mono (show w.heap.size + 1 ≤ _ by simp; omega)) (ho2.mono (show w.heap.size + 1 ≤ _ by simp; omega)))
   have hlt2 := HZ2.out.lt
   have HX : Hid (BC (W2.alloc (.cells #[.int .i64 s.seq, .slice a1 n1 c1, .slice a2 n2 c2, .int .i64 s.l1, .int .i64 s.l2, .int .i64 s.l3, .int .i64 s.l4, .int .i64 s.l5] 27)) W2.heap.size s (.slice a1 n1 c1) (.slice a2 n2 c2)) := Lib.hid (BC.new W2 s _ _)
   have hal : Below W2.heap.size W2 (W2.alloc (.cells #[.int .i64 s.seq, .slice a1 n1 c1, .slice a2 n2 c2, .int .i64 s.l1, .int .i64 s.l2, .int .i64 s.l3, .int .i64 s.l4, .int .i64 s.l5] 27)) := (Below.refl _ _).alloc (Nat.le_refl _) _
   have HAL := Lib.hid hal
   have HPQ := Lib.hid (HPU.out (.slice a1 n1 c1) (.slice a2 n2 c2) _ ((HO2.out.1.below hal).at) ((HO2.out.2.below hal).at) (HLB.out.2.2.2.below ((HB2.out.trans (hal.mono HB2.out.size)))))
   clear hb2 hb2' ho1 ho2 hal HG1
   go_wp2_with fail
   refine HPQ.out.mono ?_
   rintro _ W3 ⟨rfl, hb3⟩
   have hb3' : Below W2.heap.size W2 W3 := HAL.out.trans (hb3.mono HAL.out.size)
   have HB3 := Lib.hid (HB2.out.trans (hb3'.mono HB2.out.size))
   have HZ3 := Lib.hid (BC.below (s := Bk.zero) HZ2.out hb3')
   have HX3 := Lib.hid (HX.out.below hb3)
   have HO3 := Lib.hid (And.intro (HO2.out.1.below hb3') (HO2.out.2.below hb3'))
   clear hb3 hb3' HAL HX HPQ
   obtain ⟨z0, z1, z2, z3, z4, z5, z6, z7⟩ := BC.cells (s := Bk.zero) HZ3.out
   dsimp only [Bk.zero] at z0 z1 z2 z3 z4 z5 z6 z7
   have f0 := HZ3.out.free 0
   have f1 := HZ3.out.free 1
   have f2 := HZ3.out.free 2
   have f3 := HZ3.out.free 3
   have f4 := HZ3.out.free 4
   have f5 := HZ3.out.free 5
   have f6 := HZ3.out.free 6
   have f7 := HZ3.out.free 7
   obtain ⟨x0, x1, x2, x3, x4, x5, x6, x7⟩ := HX3.out.cells
   go_wp2_with fail
  ·have hC := BC.store (s' := s) (u' := .slice a1 n1 c1) (v' := .slice a2 n2 c2) HZ3.out
   have hB := bstore_below s (.slice a1 n1 c1) (.slice a2 n2 c2) (Nat.le_refl w.heap.size) HB3.out
   have hE : EOwn (bstore W3 w.heap.size s (.slice a1 n1 c1) (.slice a2 n2 c2)) w.heap.size (.slice a1 n1 c1) s.l := (HO3.out.1.kept (fun j hj _ => bstore_heap _ _ _ _ _ (by omega))).mono (by omega)
   have hM : MOwn (bstore W3 w.heap.size s (.slice a1 n1 c1) (.slice a2 n2 c2)) w.heap.size (.slice a2 n2 c2) s.ms := (HO3.out.2.kept (fun j hj _ => bstore_heap _ _ _ _ _ (by omega))).mono (by omega)
   unfold bstore at hC hB hE hM
   generalize ((((((((W3.setCell ⟨w.heap.size, 0, none⟩ (.int .i64 s.seq)).setCell ⟨w.heap.size, 1, none⟩ (.slice a1 n1 c1)).setCell ⟨w.heap.size, 2, none⟩ (.slice a2 n2 c2)).setCell ⟨w.heap.size, 3, none⟩ (.int .i64 s.l1)).setCell ⟨w.heap.size, 4, none⟩ (.int .i64 s.l2)).setCell ⟨w.heap.size, 5, none⟩ (.int .i64 s.l3)).setCell ⟨w.heap.size, 6, none⟩ (.int .i64 s.l4)).setCell ⟨w.heap.size, 7, none⟩ (.int .i64 s.l5)) = W4 at *
   obtain ⟨t0, t1, t2, t3, t4, t5, t6, t7⟩ := hC.cells
   exact bodyPost_ret (v := .tuple #[.agg #[.int .i64 s.seq, .slice a1 n1 c1, .slice a2 n2 c2, .int .i64 s.l1, .int .i64 s.l2, .int .i64 s.l3, .int .i64 s.l4, .int .i64 s.l5], .int .i64 0]) (by simp [results, Tryz.results21, go_sem, t0, t1, t2, t3, t4, t5, t6, t7]) rfl ⟨hB, a1, c1, a2, c2, rfl, hE, hM⟩
  ·have hC := BC.store (s' := Bk.zero) (u' := .slice none 0 0) (v' := .slice none 0 0) HZ3.out
   have hB := bstore_below Bk.zero (.slice none 0 0) (.slice none 0 0) (Nat.le_refl w.heap.size) HB3.out
   unfold bstore at hC hB
   dsimp only [Bk.zero] at hC hB
   generalize ((((((((W3.setCell ⟨w.heap.size, 0, none⟩ (.int .i64 0)).setCell ⟨w.heap.size, 1, none⟩ (.slice none 0 0)).setCell ⟨w.heap.size, 2, none⟩ (.slice none 0 0)).setCell ⟨w.heap.size, 3, none⟩ (.int .i64 0)).setCell ⟨w.heap.size, 4, none⟩ (.int .i64 0)).setCell ⟨w.heap.size, 5, none⟩ (.int .i64 0)).setCell ⟨w.heap.size, 6, none⟩ (.int .i64 0)).setCell ⟨w.heap.size, 7, none⟩ (.int .i64 0)) = W4 at *
   obtain ⟨t0, t1, t2, t3, t4, t5, t6, t7⟩ := BC.cells (s := Bk.zero) hC
   dsimp only [Bk.zero] at t0 t1 t2 t3 t4 t5 t6 t7
   exact bodyPost_ret (v := .tuple #[.agg #[.int .i64 0, .slice none 0 0, .slice none 0 0, .int .i64 0, .int .i64 0, .int .i64 0, .int .i64 0, .int .i64 0], .int .i64 1]) (by simp [results, Tryz.results21, go_sem, t0, t1, t2, t3, t4, t5, t6, t7]) rfl ⟨hB, rfl⟩
end Go.Proofs.YtlpgphiccjkenaaGreatDoor
