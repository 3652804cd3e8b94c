/-
  The contracts of pouch's Get and All.
-/
import Derived.Test.YtmamepmfbfinlaaGreatDoorPouch5
namespace Go.Proofs.YtmamepmfbfinlaaGreatDoor
open Go.RowKit

/-- The cells of a part that are read. -/
def PartZ (q : Nat) (k n : Int) (s : ByteArray) (ad : Option Addr) (len cap : Nat) (b : Int) (w : World) : Prop :=
  w.cell? ⟨q, 0, none⟩ = some (.int .i64 k) ∧ w.cell? ⟨q, 1, none⟩ = some (.int .i64 n) ∧ w.cell? ⟨q, 2, none⟩ = some (.string s) ∧ w.cell? ⟨q, 3, none⟩ = some (.slice ad len cap) ∧ w.cell? ⟨q, 4, none⟩ = some (.int .i64 b)

set_option maxRecDepth 100000 in
set_option maxHeartbeats 4000000 in
/-- Get hands on what get tells. -/
theorem Get_any (t : ByteArray) (w : World) (P : Int → Int → ByteArray → Option Addr → Nat → Nat → Int → Int → World → Prop)
    (hP : ∀ k n s ad len cap b e w1 w2, P k n s ad len cap b e w1 → (∀ j, j ≠ w.heap.size → j < w1.heap.size → w2.heap[j]? = w1.heap[j]?) → P k n s ad len cap b e w2)
    (H : Calls Tryz.prog 57 #[.string t, .int .i64 6, .int .i64 6000] (w.alloc (.cells #[.int .i64 0, .int .i64 0, .string ⟨#[]⟩, .slice none 0 0] 61)) fun e w' => Below (w.alloc (.cells #[.int .i64 0, .int .i64 0, .string ⟨#[]⟩, .slice none 0 0] 61)).heap.size (w.alloc (.cells #[.int .i64 0, .int .i64 0, .string ⟨#[]⟩, .slice none 0 0] 61)) w' ∧ ∃ k n s ad len cap b c er, e = .returned (.tuple #[.agg #[.int .i64 k, .int .i64 n, .string s, .slice ad len cap, .int .i64 b, .int .i64 c], .int .i64 er]) ∧ P k n s ad len cap b er w') :
    Calls Tryz.prog 38 #[.string t] w fun e w' => Below w.heap.size w w' ∧ ∃ k n s ad len cap b er, e = .returned (.tuple #[.agg #[.int .i64 k, .int .i64 n, .string s, .slice ad len cap], .int .i64 b, .int .i64 er]) ∧ P k n s ad len cap b er w' := by
  have HB0 : Hid (Below w.heap.size w (w.alloc (.cells #[.int .i64 0, .int .i64 0, .string ⟨#[]⟩, .slice none 0 0] 61))) := Lib.hid ((Below.refl _ _).alloc (Nat.le_refl _) _)
  have H' := Lib.hid H
  have HP := Lib.hid hP
  clear H hP
  go_enter Tryz.func38, Tryz.ntmps38
  go_wp2_with fail
  refine H'.out.mono ?_
  rintro _ w2 ⟨hb2, k, n, s, ad, len, cap, b, c, er, rfl, hp⟩
  have HPP := Lib.hid hp
  have HB2 := Lib.hid (HB0.out.trans (hb2.mono HB0.out.size))
  have hlt : w.heap.size < w2.heap.size := by have := hb2.size; simp at this; omega
  have c0 : w2.cell? ⟨w.heap.size, 0, none⟩ = some (.int .i64 0) := by rw [hb2.cell (by simp)]; go_simp
  have z0 : w2.frozen? ⟨w.heap.size, 0, none⟩ = false := by rw [hb2.frozen (by simp)]; go_simp
  have c1 : w2.cell? ⟨w.heap.size, 1, none⟩ = some (.int .i64 0) := by rw [hb2.cell (by simp)]; go_simp
  have z1 : w2.frozen? ⟨w.heap.size, 1, none⟩ = false := by rw [hb2.frozen (by simp)]; go_simp
  have c2 : w2.cell? ⟨w.heap.size, 2, none⟩ = some (.string ⟨#[]⟩) := by rw [hb2.cell (by simp)]; go_simp
  have z2 : w2.frozen? ⟨w.heap.size, 2, none⟩ = false := by rw [hb2.frozen (by simp)]; go_simp
  have c3 : w2.cell? ⟨w.heap.size, 3, none⟩ = some (.slice none 0 0) := by rw [hb2.cell (by simp)]; go_simp
  have z3 : w2.frozen? ⟨w.heap.size, 3, none⟩ = false := by rw [hb2.frozen (by simp)]; go_simp
  clear hb2 hp
  go_wp2_with fail
  have hS : PartZ w2.heap.size k n s ad len cap b (World.drew (w2.alloc (.cells #[.int .i64 k, .int .i64 n, .string s, .slice ad len cap, .int .i64 b, .int .i64 c] 78))) := by
    refine ⟨?_, ?_, ?_, ?_, ?_⟩ <;> go_simp
  have hne : ¬ w2.heap.size = w.heap.size := by omega
  have hne' : ¬ w.heap.size = w2.heap.size := by omega
  refine wp_region_held (S := PartZ w2.heap.size k n s ad len cap b) (by kernel_rfl) ?_
  change wpAnyH _ _ _ _ _ _ _ _ (World.drew _)
  refine wpAnyH_take (i := 0) (v := Value.pointer (some ⟨w2.heap.size, 0, none⟩)) rfl (by kernel_rfl) (by kernel_rfl) (by kernel_rfl) (fun _ _ _ h => h) (Or.inl ⟨by rfl, ?_⟩) hS ?_
  · intro w' ⟨s0, s1, s2, s3, s4⟩; go_simp
  refine wpAnyH_take (i := 1) (v := Value.agg #[.int .i64 k, .int .i64 n, .string s, .slice ad len cap]) rfl (by kernel_rfl) (by kernel_rfl) (by kernel_rfl) (fun _ _ _ h => h) (Or.inl ⟨by rfl, ?_⟩) hS ?_
  · intro w' ⟨s0, s1, s2, s3, s4⟩; go_simp
  refine wpAnyH_take (i := 2) (v := Value.pointer (some ⟨w2.heap.size, 4, none⟩)) rfl (by kernel_rfl) (by kernel_rfl) (by kernel_rfl) (fun _ _ _ h => h) (Or.inl ⟨by rfl, ?_⟩) hS ?_
  · intro w' ⟨s0, s1, s2, s3, s4⟩; go_simp
  refine wpAnyH_take (i := 3) (v := Value.int .i64 b) rfl (by kernel_rfl) (by kernel_rfl) (by kernel_rfl) (fun _ _ _ h => h) (Or.inl ⟨by rfl, ?_⟩) hS ?_
  · intro w' ⟨s0, s1, s2, s3, s4⟩; go_simp
  refine wpAnyH_take (i := 4) (v := Value.int .i64 er) rfl (by kernel_rfl) (by kernel_rfl) (by kernel_rfl) (fun _ _ _ h => h) (Or.inl ⟨by rfl, ?_⟩) hS ?_
  · intro w' ⟨s0, s1, s2, s3, s4⟩; go_simp
  refine wpAnyH_ready (rs := [5]) (by kernel_rfl) (by simp) ?_
  refine AllReadyH.cons rfl (fun K hK => ?_) AllReadyH.nil
  go_simp
  refine hK.out _ _ ?_ (fun hS1 => ?_)
  · clear hS
    refine ⟨?_, ?_, ?_, ?_, ?_⟩ <;> go_simp
  clear hK hS
  refine wpAnyH_ready (rs := [6]) (by kernel_rfl) (by simp) ?_
  refine AllReadyH.cons rfl (fun K hK => ?_) AllReadyH.nil
  go_simp
  refine hK.out _ _ hS1 (fun _ => ?_)
  clear hK
  refine wpAnyH_ready (rs := [7]) (by kernel_rfl) (by simp) ?_
  refine AllReadyH.cons rfl (fun K hK => ?_) AllReadyH.nil
  go_simp
  refine hK.out _ _ hS1 (fun _ => ?_)
  clear hK
  refine wpAnyH_done (by kernel_rfl) ?_ _
  go_wp2_with fail
  have d0 : ((((((w2.setCell ⟨w.heap.size, 0, none⟩ (.int .i64 k)).setCell ⟨w.heap.size, 1, none⟩ (.int .i64 n)).setCell ⟨w.heap.size, 2, none⟩ (.string s)).setCell ⟨w.heap.size, 3, none⟩ (.slice ad len cap)).alloc (.cells #[.int .i64 k, .int .i64 n, .string s, .slice ad len cap, .int .i64 b, .int .i64 c] 78)).drew).cell? ⟨w.heap.size, 0, none⟩ = some (.int .i64 k) := by go_simp
  have d1 : ((((((w2.setCell ⟨w.heap.size, 0, none⟩ (.int .i64 k)).setCell ⟨w.heap.size, 1, none⟩ (.int .i64 n)).setCell ⟨w.heap.size, 2, none⟩ (.string s)).setCell ⟨w.heap.size, 3, none⟩ (.slice ad len cap)).alloc (.cells #[.int .i64 k, .int .i64 n, .string s, .slice ad len cap, .int .i64 b, .int .i64 c] 78)).drew).cell? ⟨w.heap.size, 1, none⟩ = some (.int .i64 n) := by go_simp
  have d2 : ((((((w2.setCell ⟨w.heap.size, 0, none⟩ (.int .i64 k)).setCell ⟨w.heap.size, 1, none⟩ (.int .i64 n)).setCell ⟨w.heap.size, 2, none⟩ (.string s)).setCell ⟨w.heap.size, 3, none⟩ (.slice ad len cap)).alloc (.cells #[.int .i64 k, .int .i64 n, .string s, .slice ad len cap, .int .i64 b, .int .i64 c] 78)).drew).cell? ⟨w.heap.size, 2, none⟩ = some (.string s) := by go_simp
  have d3 : ((((((w2.setCell ⟨w.heap.size, 0, none⟩ (.int .i64 k)).setCell ⟨w.heap.size, 1, none⟩ (.int .i64 n)).setCell ⟨w.heap.size, 2, none⟩ (.string s)).setCell ⟨w.heap.size, 3, none⟩ (.slice ad len cap)).alloc (.cells #[.int .i64 k, .int .i64 n, .string s, .slice ad len cap, .int .i64 b, .int .i64 c] 78)).drew).cell? ⟨w.heap.size, 3, none⟩ = some (.slice ad len cap) := by go_simp
  refine bodyPost_ret (v := .tuple #[.agg #[.int .i64 k, .int .i64 n, .string s, .slice ad len cap], .int .i64 b, .int .i64 er]) (by simp [results, Tryz.results38, go_sem, d0, d1, d2, d3]) rfl ⟨(((((HB2.out.setCell (by simp) _).setCell (by simp) _).setCell (by simp) _).setCell (by simp) _).alloc (by simp; omega) _).drew, k, n, s, ad, len, cap, b, er, rfl, ?_⟩
  refine HP.out _ _ _ _ _ _ _ _ _ _ HPP.out (fun j hj hl => ?_)
  rw [show (∀ (x : World), x.drew.heap = x.heap) from fun _ => rfl, heap_alloc_old _ _ (by simpa using hl)]
  rw [heap_setCell_other _ _ _ _ hj, heap_setCell_other _ _ _ _ hj, heap_setCell_other _ _ _ _ hj, heap_setCell_other _ _ _ _ hj]

/-- What Get tells. -/
def GetV (r : Except Nat G) (w : World) (e : Ending) (w' : World) : Prop :=
  Below w.heap.size w w' ∧
  match r with
  | .error x => e = .returned (.tuple #[.agg #[.int .i64 0, .int .i64 0, .string ⟨#[]⟩, .slice none 0 0], .int .i64 0, .int .i64 x])
  | .ok x => ∃ ad cap, e = .returned (.tuple #[.agg #[.int .i64 x.k, .int .i64 x.n, .string x.s, .slice ad x.l.len (x.l.len + cap)], .int .i64 x.b, .int .i64 0]) ∧ RepG w' (fun b => w.heap.size ≤ b) ad x.l

/-- Get's answer. -/
def getR (t : ByteArray) : Except Nat G := getP 6 t 6000

theorem Get_p (t : ByteArray) (w : World) (hs : t.size ≤ 9223372036854775807) (hlib : LibAt w) :
    Calls Tryz.prog 38 #[.string t] w (GetV (getR t) w) := by
  have hb0 : Below w.heap.size w (w.alloc (.cells #[.int .i64 0, .int .i64 0, .string ⟨#[]⟩, .slice none 0 0] 61)) := (Below.refl _ _).alloc (Nat.le_refl _) _
  have H := get_q 6 (by decide) t 6000 (w.alloc (.cells #[.int .i64 0, .int .i64 0, .string ⟨#[]⟩, .slice none 0 0] 61)) hs (by decide) (by decide) (hlib.below hb0)
  unfold getR
  generalize getP 6 t 6000 = r at *
  unfold GetPost at H
  cases r with
  | error e =>
    refine (Get_any t w (fun k n s ad len cap b er _ => k = 0 ∧ n = 0 ∧ s = ⟨#[]⟩ ∧ ad = none ∧ len = 0 ∧ cap = 0 ∧ b = 0 ∧ er = (e : Int)) (fun _ _ _ _ _ _ _ _ _ _ h _ => h) (H.mono fun x w' ⟨h1, h2⟩ => ⟨h1, 0, 0, ⟨#[]⟩, none, 0, 0, 0, 0, e, h2, rfl, rfl, rfl, rfl, rfl, rfl, rfl, rfl⟩)).mono ?_
    rintro x w' ⟨h1, k, n, s, ad, len, cap, b, er, rfl, rfl, rfl, rfl, rfl, rfl, rfl, rfl, rfl⟩
    exact ⟨h1, rfl⟩
  | ok x =>
    refine (Get_any t w (fun k n s ad len cap b er w' => k = x.k ∧ n = x.n ∧ s = x.s ∧ len = x.l.len ∧ b = (x.b : Int) ∧ er = 0 ∧ x.l.len ≤ cap ∧ RepG w' (fun b => w.heap.size < b) ad x.l) (fun _ _ _ _ _ _ _ _ _ _ h hh => ?_) (H.mono fun y w' ⟨h1, ad, cap, h2, h3⟩ => ⟨h1, x.k, x.n, x.s, ad, x.l.len, x.l.len + cap, x.b, x.c, 0, h2, rfl, rfl, rfl, rfl, rfl, rfl, Nat.le_add_right _ _, h3.to (fun b hb _ => ⟨by simp at hb; omega, rfl⟩)⟩)).mono ?_
    · obtain ⟨h1, h2, h3, h4, h5, h6, h8, h7⟩ := h
      exact ⟨h1, h2, h3, h4, h5, h6, h8, h7.to (fun b hb hl => ⟨hb, hh b (by omega) hl⟩)⟩
    · rintro y w' ⟨h1, k, n, s, ad, len, cap, b, er, rfl, rfl, rfl, rfl, rfl, rfl, rfl, hc, hg⟩
      exact ⟨h1, ad, cap - x.l.len, by rw [Nat.add_sub_cancel' hc], hg.to (fun b hb _ => ⟨by omega, rfl⟩)⟩

end Go.Proofs.YtmamepmfbfinlaaGreatDoor
