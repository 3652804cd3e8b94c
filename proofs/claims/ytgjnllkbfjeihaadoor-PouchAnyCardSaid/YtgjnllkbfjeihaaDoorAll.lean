/-
  The contract of pouch's All.
-/
import Derived.Test.YtgjnllkbfjeihaaDoorDec
namespace Go.Proofs.YtgjnllkbfjeihaaDoor
open Go.RowKit

/-- What All tells. -/
def AllV (r : Except Nat G) (w : World) (e : Ending) (w' : World) : Prop :=
  Below w.heap.size w w' ∧
  match r with
  | .error _ => e = .returned (.tuple #[.agg #[.int .i64 0, .int .i64 0, .string ⟨#[]⟩, .slice none 0 0], .int .i64 1])
  | .ok x => ∃ ad cap, e = .returned (.tuple #[.agg #[.int .i64 x.k, .int .i64 x.n, .string x.s, .slice ad x.l.len cap], .int .i64 0]) ∧ RepG w' (fun b => w.heap.size ≤ b) ad x.l

set_option maxRecDepth 100000 in
set_option maxHeartbeats 4000000 in
theorem all_bad (t : ByteArray) (w : World) (k n b er : Int) (s : ByteArray) (len : Nat) (hr : ¬ er = 0 ∨ ¬ b = (t.size : Int)) 
    (H : Calls Tryd.prog 10 #[.string t] (w.alloc (.cells #[.int .i64 0, .int .i64 0, .string ⟨#[]⟩, .slice none 0 0] 30)) fun e w' => (∃ ad cap, e = .returned (.tuple #[.agg #[.int .i64 k, .int .i64 n, .string s, .slice ad len cap], .int .i64 b, .int .i64 er])) ∧ Below (w.alloc (.cells #[.int .i64 0, .int .i64 0, .string ⟨#[]⟩, .slice none 0 0] 30)).heap.size (w.alloc (.cells #[.int .i64 0, .int .i64 0, .string ⟨#[]⟩, .slice none 0 0] 30)) w') :
    Calls Tryd.prog 20 #[.string t] w fun e w' => e = .returned (.tuple #[.agg #[.int .i64 0, .int .i64 0, .string ⟨#[]⟩, .slice none 0 0], .int .i64 1]) ∧ Below w.heap.size w w' := by
  have HB0 : Hid (Below w.heap.size w (w.alloc (.cells #[.int .i64 0, .int .i64 0, .string ⟨#[]⟩, .slice none 0 0] 30))) := Lib.hid ((Below.refl _ _).alloc (Nat.le_refl _) _)
  have H' := Lib.hid H
  clear H
  by_cases he : er = 0
  · subst he
    have hb : (b != (t.size : Int)) = true := by rw [bne_iff_ne]; rcases hr with h | h; exact absurd rfl h; exact h
    clear hr
    go_enter Tryd.func20, Tryd.ntmps20
    go_wp2_with fail
    refine H'.out.mono ?_
    rintro _ w2 ⟨⟨ad, cap, rfl⟩, hb2⟩
    have hlt : w.heap.size < w2.heap.size := by have := hb2.size; simp at this; omega
    have c0 : w2.cell? ⟨w.heap.size, 0, none⟩ = some (.int .i64 0) := by rw [hb2.cell (by simp)]; go_simp
    have z0 : w2.frozen? ⟨w.heap.size, 0, none⟩ = false := by rw [hb2.frozen (by simp)]; go_simp
    have c1 : w2.cell? ⟨w.heap.size, 1, none⟩ = some (.int .i64 0) := by rw [hb2.cell (by simp)]; go_simp
    have z1 : w2.frozen? ⟨w.heap.size, 1, none⟩ = false := by rw [hb2.frozen (by simp)]; go_simp
    have c2 : w2.cell? ⟨w.heap.size, 2, none⟩ = some (.string ⟨#[]⟩) := by rw [hb2.cell (by simp)]; go_simp
    have z2 : w2.frozen? ⟨w.heap.size, 2, none⟩ = false := by rw [hb2.frozen (by simp)]; go_simp
    have c3 : w2.cell? ⟨w.heap.size, 3, none⟩ = some (.slice none 0 0) := by rw [hb2.cell (by simp)]; go_simp
    have z3 : w2.frozen? ⟨w.heap.size, 3, none⟩ = false := by rw [hb2.frozen (by simp)]; go_simp
    have HB2 := Lib.hid (HB0.out.trans (hb2.mono HB0.out.size))
    have hne : ¬ w2.heap.size = w.heap.size := by omega
    have hne' : ¬ w.heap.size = w2.heap.size := by omega
    clear hb2
    go_wp2_with fail
    exact bodyPost_ret (v := .tuple #[.agg #[.int .i64 0, .int .i64 0, .string ⟨#[]⟩, .slice none 0 0], .int .i64 1]) (by simp [results, Tryd.results20, go_sem, c0, c1, c2, c3, hlt]) rfl ⟨rfl, (((((HB2.out.setCell (by simp) _).setCell (by simp) _).setCell (by simp) _).setCell (by simp) _).alloc (by simp; omega) _)⟩
  · have hb : (er != 0) = true := by rw [bne_iff_ne]; exact he
    clear hr he
    go_enter Tryd.func20, Tryd.ntmps20
    go_wp2_with fail
    refine H'.out.mono ?_
    rintro _ w2 ⟨⟨ad, cap, rfl⟩, hb2⟩
    have hlt : w.heap.size < w2.heap.size := by have := hb2.size; simp at this; omega
    have c0 : w2.cell? ⟨w.heap.size, 0, none⟩ = some (.int .i64 0) := by rw [hb2.cell (by simp)]; go_simp
    have z0 : w2.frozen? ⟨w.heap.size, 0, none⟩ = false := by rw [hb2.frozen (by simp)]; go_simp
    have c1 : w2.cell? ⟨w.heap.size, 1, none⟩ = some (.int .i64 0) := by rw [hb2.cell (by simp)]; go_simp
    have z1 : w2.frozen? ⟨w.heap.size, 1, none⟩ = false := by rw [hb2.frozen (by simp)]; go_simp
    have c2 : w2.cell? ⟨w.heap.size, 2, none⟩ = some (.string ⟨#[]⟩) := by rw [hb2.cell (by simp)]; go_simp
    have z2 : w2.frozen? ⟨w.heap.size, 2, none⟩ = false := by rw [hb2.frozen (by simp)]; go_simp
    have c3 : w2.cell? ⟨w.heap.size, 3, none⟩ = some (.slice none 0 0) := by rw [hb2.cell (by simp)]; go_simp
    have z3 : w2.frozen? ⟨w.heap.size, 3, none⟩ = false := by rw [hb2.frozen (by simp)]; go_simp
    have HB2 := Lib.hid (HB0.out.trans (hb2.mono HB0.out.size))
    have hne : ¬ w2.heap.size = w.heap.size := by omega
    have hne' : ¬ w.heap.size = w2.heap.size := by omega
    clear hb2
    go_wp2_with fail
    exact bodyPost_ret (v := .tuple #[.agg #[.int .i64 0, .int .i64 0, .string ⟨#[]⟩, .slice none 0 0], .int .i64 1]) (by simp [results, Tryd.results20, go_sem, c0, c1, c2, c3, hlt]) rfl ⟨rfl, (((((HB2.out.setCell (by simp) _).setCell (by simp) _).setCell (by simp) _).setCell (by simp) _).alloc (by simp; omega) _)⟩

set_option maxRecDepth 100000 in
set_option maxHeartbeats 4000000 in
theorem all_good (t : ByteArray) (w : World) (k n b : Int) (s : ByteArray) (len : Nat) (hb : b = (t.size : Int)) (P : Option Addr → Nat → World → Prop)
    (hP : ∀ ad cap w1 w2, P ad cap w1 → (∀ j, j ≠ w.heap.size → j < w1.heap.size → w2.heap[j]? = w1.heap[j]?) → P ad cap w2)
    (H : Calls Tryd.prog 10 #[.string t] (w.alloc (.cells #[.int .i64 0, .int .i64 0, .string ⟨#[]⟩, .slice none 0 0] 30)) fun e w' => (∃ ad cap, e = .returned (.tuple #[.agg #[.int .i64 k, .int .i64 n, .string s, .slice ad len cap], .int .i64 b, .int .i64 0]) ∧ P ad cap w') ∧ Below (w.alloc (.cells #[.int .i64 0, .int .i64 0, .string ⟨#[]⟩, .slice none 0 0] 30)).heap.size (w.alloc (.cells #[.int .i64 0, .int .i64 0, .string ⟨#[]⟩, .slice none 0 0] 30)) w') :
    Calls Tryd.prog 20 #[.string t] w fun e w' => (∃ ad cap, e = .returned (.tuple #[.agg #[.int .i64 k, .int .i64 n, .string s, .slice ad len cap], .int .i64 0]) ∧ P ad cap w') ∧ Below w.heap.size w w' := by
  have HB0 : Hid (Below w.heap.size w (w.alloc (.cells #[.int .i64 0, .int .i64 0, .string ⟨#[]⟩, .slice none 0 0] 30))) := Lib.hid ((Below.refl _ _).alloc (Nat.le_refl _) _)
  have H' := Lib.hid H
  have HP := Lib.hid hP
  clear H hP
  have hbe : (b != (t.size : Int)) = false := by rw [bne_eq_false_iff_eq]; exact hb
  clear hb
  go_enter Tryd.func20, Tryd.ntmps20
  go_wp2_with fail
  refine H'.out.mono ?_
  rintro _ w2 ⟨⟨ad, cap, rfl, hp2⟩, hb2⟩
  have HPP := Lib.hid hp2
  have hlt : w.heap.size < w2.heap.size := by have := hb2.size; simp at this; omega
  have c0 : w2.cell? ⟨w.heap.size, 0, none⟩ = some (.int .i64 0) := by rw [hb2.cell (by simp)]; go_simp
  have z0 : w2.frozen? ⟨w.heap.size, 0, none⟩ = false := by rw [hb2.frozen (by simp)]; go_simp
  have c1 : w2.cell? ⟨w.heap.size, 1, none⟩ = some (.int .i64 0) := by rw [hb2.cell (by simp)]; go_simp
  have z1 : w2.frozen? ⟨w.heap.size, 1, none⟩ = false := by rw [hb2.frozen (by simp)]; go_simp
  have c2 : w2.cell? ⟨w.heap.size, 2, none⟩ = some (.string ⟨#[]⟩) := by rw [hb2.cell (by simp)]; go_simp
  have z2 : w2.frozen? ⟨w.heap.size, 2, none⟩ = false := by rw [hb2.frozen (by simp)]; go_simp
  have c3 : w2.cell? ⟨w.heap.size, 3, none⟩ = some (.slice none 0 0) := by rw [hb2.cell (by simp)]; go_simp
  have z3 : w2.frozen? ⟨w.heap.size, 3, none⟩ = false := by rw [hb2.frozen (by simp)]; go_simp
  have HB2 := Lib.hid (HB0.out.trans (hb2.mono HB0.out.size))
  have hne : ¬ w2.heap.size = w.heap.size := by omega
  have hne' : ¬ w.heap.size = w2.heap.size := by omega
  clear hb2 hp2
  go_wp2_with fail
  have d0 : (((((w2.setCell ⟨w.heap.size, 0, none⟩ (.int .i64 k)).setCell ⟨w.heap.size, 1, none⟩ (.int .i64 n)).setCell ⟨w.heap.size, 2, none⟩ (.string s)).setCell ⟨w.heap.size, 3, none⟩ (.slice ad len cap)).alloc (.cells #[.int .i64 k, .int .i64 n, .string s, .slice ad len cap] 30)).cell? ⟨w.heap.size, 0, none⟩ = some (.int .i64 k) := by go_simp
  have d1 : (((((w2.setCell ⟨w.heap.size, 0, none⟩ (.int .i64 k)).setCell ⟨w.heap.size, 1, none⟩ (.int .i64 n)).setCell ⟨w.heap.size, 2, none⟩ (.string s)).setCell ⟨w.heap.size, 3, none⟩ (.slice ad len cap)).alloc (.cells #[.int .i64 k, .int .i64 n, .string s, .slice ad len cap] 30)).cell? ⟨w.heap.size, 1, none⟩ = some (.int .i64 n) := by go_simp
  have d2 : (((((w2.setCell ⟨w.heap.size, 0, none⟩ (.int .i64 k)).setCell ⟨w.heap.size, 1, none⟩ (.int .i64 n)).setCell ⟨w.heap.size, 2, none⟩ (.string s)).setCell ⟨w.heap.size, 3, none⟩ (.slice ad len cap)).alloc (.cells #[.int .i64 k, .int .i64 n, .string s, .slice ad len cap] 30)).cell? ⟨w.heap.size, 2, none⟩ = some (.string s) := by go_simp
  have d3 : (((((w2.setCell ⟨w.heap.size, 0, none⟩ (.int .i64 k)).setCell ⟨w.heap.size, 1, none⟩ (.int .i64 n)).setCell ⟨w.heap.size, 2, none⟩ (.string s)).setCell ⟨w.heap.size, 3, none⟩ (.slice ad len cap)).alloc (.cells #[.int .i64 k, .int .i64 n, .string s, .slice ad len cap] 30)).cell? ⟨w.heap.size, 3, none⟩ = some (.slice ad len cap) := by go_simp
  refine bodyPost_ret (v := .tuple #[.agg #[.int .i64 k, .int .i64 n, .string s, .slice ad len cap], .int .i64 0]) (by simp [results, Tryd.results20, go_sem, d0, d1, d2, d3]) rfl ⟨⟨ad, cap, rfl, ?_⟩, (((((HB2.out.setCell (by simp) _).setCell (by simp) _).setCell (by simp) _).setCell (by simp) _).alloc (by simp; omega) _)⟩
  refine HP.out _ _ _ _ HPP.out (fun j hj hl => ?_)
  rw [heap_alloc_old _ _ (by simpa using hl)]
  rw [heap_setCell_other _ _ _ _ hj, heap_setCell_other _ _ _ _ hj, heap_setCell_other _ _ _ _ hj, heap_setCell_other _ _ _ _ hj]

theorem All_p (t : ByteArray) (w : World) (hs : t.size ≤ 9223372036854775807) (hlib : LibAt w) :
    Calls Tryd.prog 20 #[.string t] w (AllV (allR t) w) := by
  have hb0 : Below w.heap.size w (w.alloc (.cells #[.int .i64 0, .int .i64 0, .string ⟨#[]⟩, .slice none 0 0] 30)) := (Below.refl _ _).alloc (Nat.le_refl _) _
  have H := Get_p t (w.alloc (.cells #[.int .i64 0, .int .i64 0, .string ⟨#[]⟩, .slice none 0 0] 30)) hs (hlib.below hb0)
  unfold allR
  have he : ∀ e, getR t = .error e → e = 1 ∨ e = 2 := fun e h => getP_err 6 t 6000 e h
  generalize getR t = r at *
  unfold GetV at H
  cases r with
  | error e =>
    have := he e rfl
    refine (all_bad t w 0 0 0 e ⟨#[]⟩ 0 (.inl (by omega)) (H.mono fun x w' h => ⟨⟨none, 0, h.2⟩, h.1⟩)).mono ?_
    rintro x w' ⟨rfl, h⟩
    exact ⟨h, rfl⟩
  | ok x =>
    simp only
    by_cases hb : x.b = t.size
    · rw [if_pos hb]
      refine (all_good t w x.k x.n x.b x.s x.l.len (by omega) (fun ad _ w' => RepG w' (fun b => w.heap.size < b) ad x.l) (fun ad cap w1 w2 h hh => h.to (fun b hb hl => ⟨hb, hh b (by omega) hl⟩)) (H.mono fun e w' ⟨h1, ad, cap, h2, h3⟩ => ⟨⟨ad, cap, h2, h3.to (fun b hb _ => ⟨by simp at hb; omega, rfl⟩)⟩, h1⟩)).mono ?_
      rintro e w' ⟨⟨ad, cap, rfl, hg⟩, h1⟩
      exact ⟨h1, ad, cap, rfl, hg.to (fun b hb _ => ⟨by omega, rfl⟩)⟩
    · rw [if_neg hb]
      refine (all_bad t w x.k x.n x.b 0 x.s x.l.len (.inr (by omega)) (H.mono fun e w' ⟨h1, ad, cap, h2, h3⟩ => ⟨⟨ad, cap, h2⟩, h1⟩)).mono ?_
      rintro e w' ⟨rfl, h⟩
      exact ⟨h, rfl⟩

end Go.Proofs.YtgjnllkbfjeihaaDoor
