/-
  The contracts of the reference's reckoning with pairs (armariumref1: mod, Add, Mul, Pow, On, Mark) and of the law's own pair, z, Cut.
-/
import Derived.Test.YtmamepmfbfinlaaGreatDoorProg
import Derived.Test.YtmamepmfbfinlaaGreatDoorFlM
import Derived.WalkKit
import Derived.WalkSpells
import Derived.WalkLawsBesides
import Derived.Lib.Hide
import Derived.Deep.QuietTactic
import Derived.BigQuiet
import Derived.StillTailTactics
namespace Go.Proofs.YtmamepmfbfinlaaGreatDoor
open Go.RowKit Go.Proofs.Flo

theorem ret_int {k : IntKind} {a b : Int} (h : a = b) : Ending.returned (.int k a) = .returned (.int k b) := by rw [h]

theorem tmod_prime (n : Int) : (n.tmod 65521 < 0 → n.tmod 65521 + 65521 = n % 65521) ∧ (¬ n.tmod 65521 < 0 → n.tmod 65521 = n % 65521) ∧ -65521 < n.tmod 65521 ∧ n.tmod 65521 < 65521 := by
  have h1 := Int.tmod_lt_of_pos n (show (0 : Int) < 65521 by decide)
  have h2 := Int.lt_tmod_of_pos n (show (0 : Int) < 65521 by decide)
  have h3 := Int.tmod_add_mul_tdiv n 65521
  generalize n.tmod 65521 = r at *
  generalize n.tdiv 65521 = q at *
  refine ⟨fun h => ?_, fun h => ?_, by omega, h1⟩
  · omega
  · omega

set_option maxHeartbeats 400000 in
theorem rmod_any (n : Int) (w : World) :
    Calls Tryz.prog 35 #[.int .i64 n] w fun e w' => e = .returned (.int .i64 (n % 65521)) ∧ w = w' := by
  obtain ⟨h1, h2, h3, h4⟩ := tmod_prime n
  by_cases h : n.tmod 65521 < 0
  · have e := Lib.hid (h1 h)
    clear h1 h2
    have hf : 0 ≤ n.tmod 65521 + 65521 := by omega
    go_enter Tryz.func35, Tryz.ntmps35
    go_wp2
    go_ret
    exact ⟨ret_int e.out, rfl⟩
  · have e := Lib.hid (h2 h)
    clear h1 h2
    go_enter Tryz.func35, Tryz.ntmps35
    go_wp2
    go_ret
    exact ⟨ret_int e.out, rfl⟩

theorem rmod_q (n : Int) (w : World) :
    Calls Tryz.prog 35 #[.int .i64 n] w fun e w' => e = .returned (.int .i64 (n % 65521)) ∧ w' = w :=
  (rmod_any n w).mono fun _ _ h => ⟨h.1, h.2.symm⟩

/-- A pair. -/
def pz (a b : Int) : Value := .agg #[.int .i64 a, .int .i64 b]

set_option maxRecDepth 100000 in
set_option maxHeartbeats 400000 in
theorem radd_any (a b c d : Int) (h1 : -9223372036854775808 ≤ a + c) (h2 : a + c ≤ 9223372036854775807) (h3 : -9223372036854775808 ≤ b + d) (h4 : b + d ≤ 9223372036854775807) (w : World) :
    Calls Tryz.prog 54 #[pz a b, pz c d] w fun e w' => e = .returned (pz ((a + c) % 65521) ((b + d) % 65521)) ∧ Below w.heap.size w w' := by
  unfold pz
  go_enter Tryz.func54, Tryz.ntmps54
  go_wp2_with fail
  obtain ⟨W2, HW⟩ : ∃ W2, Hid (W2 = ((w.alloc (.cells #[.int .i64 a, .int .i64 b] 46)).alloc (.cells #[.int .i64 c, .int .i64 d] 46)).alloc (.cells #[.int .i64 0, .int .i64 0] 46)) := ⟨_, Lib.hid rfl⟩
  rw [← HW.out]
  have f0 : W2.cell? ⟨w.heap.size, 0, none⟩ = some (.int .i64 a) := by rw [HW.out]; go_simp
  have f1 : W2.cell? ⟨w.heap.size, 1, none⟩ = some (.int .i64 b) := by rw [HW.out]; go_simp
  have f2 : W2.cell? ⟨w.heap.size + 1, 0, none⟩ = some (.int .i64 c) := by rw [HW.out]; go_simp
  have f3 : W2.cell? ⟨w.heap.size + 1, 1, none⟩ = some (.int .i64 d) := by rw [HW.out]; go_simp
  have s1 : IntKind.i64.wrap (a + c) = a + c := IntWalk.i64_in _ (by omega)
  have s2 : IntKind.i64.wrap (b + d) = b + d := IntWalk.i64_in _ (by omega)
  refine wp_region_still_tail 12 (by kernel_rfl) (by kernel_rfl) ?_
  simp only [List.take_succ_cons, List.take_zero, List.drop_succ_cons, List.drop_zero]
  repeat still_step
  still_call (rmod_q _ _)
  repeat still_step
  still_call (rmod_q _ _)
  refine wpStill_nil ?_
  change wpList _ _ _ _ _ W2.drew
  rw [HW.out]
  clear f0 f1 f2 f3 HW s1 s2
  go_wp2
  exact bodyPost_ret (v := .agg #[.int .i64 ((a + c) % 65521), .int .i64 ((b + d) % 65521)]) (by simp [results, Tryz.results54, go_sem]) rfl
    ⟨rfl, ((((Below.refl _ _).alloc (Nat.le_refl _) _).alloc (by simp) _).alloc (by simp only [World.size_alloc]; omega) _).drew⟩

set_option maxRecDepth 100000 in
set_option maxHeartbeats 400000 in
theorem rmul_any (a b c d : Int) (ha : 0 ≤ a ∧ a ≤ 65520) (hb : 0 ≤ b ∧ b ≤ 65520) (hc : 0 ≤ c ∧ c ≤ 65520) (hd : 0 ≤ d ∧ d ≤ 65520) (w : World) :
    Calls Tryz.prog 25 #[pz a b, pz c d] w fun e w' => e = .returned (pz ((a * c - b * d) % 65521) ((a * d + b * c) % 65521)) ∧ Below w.heap.size w w' := by
  have pb : ∀ {x y : Int}, (0 ≤ x ∧ x ≤ 65520) → (0 ≤ y ∧ y ≤ 65520) → 0 ≤ x * y ∧ x * y ≤ 4292870400 := by
    intro x y hx hy
    refine ⟨Int.mul_nonneg hx.1 hy.1, ?_⟩
    have := Int.mul_le_mul hx.2 hy.2 hy.1 (by omega)
    omega
  have b1 := pb ha hc
  have b2 := pb hb hd
  have b3 := pb ha hd
  have b4 := pb hb hc
  unfold pz
  go_enter Tryz.func25, Tryz.ntmps25
  go_wp2_with fail
  obtain ⟨W2, HW⟩ : ∃ W2, Hid (W2 = ((w.alloc (.cells #[.int .i64 a, .int .i64 b] 46)).alloc (.cells #[.int .i64 c, .int .i64 d] 46)).alloc (.cells #[.int .i64 0, .int .i64 0] 46)) := ⟨_, Lib.hid rfl⟩
  rw [← HW.out]
  have f0 : W2.cell? ⟨w.heap.size, 0, none⟩ = some (.int .i64 a) := by rw [HW.out]; go_simp
  have f1 : W2.cell? ⟨w.heap.size, 1, none⟩ = some (.int .i64 b) := by rw [HW.out]; go_simp
  have f2 : W2.cell? ⟨w.heap.size + 1, 0, none⟩ = some (.int .i64 c) := by rw [HW.out]; go_simp
  have f3 : W2.cell? ⟨w.heap.size + 1, 1, none⟩ = some (.int .i64 d) := by rw [HW.out]; go_simp
  have s1 : IntKind.i64.wrap (a * c) = a * c := IntWalk.i64_in _ (by omega)
  have s2 : IntKind.i64.wrap (b * d) = b * d := IntWalk.i64_in _ (by omega)
  have s3 : IntKind.i64.wrap (a * d) = a * d := IntWalk.i64_in _ (by omega)
  have s4 : IntKind.i64.wrap (b * c) = b * c := IntWalk.i64_in _ (by omega)
  have s5 : IntKind.i64.wrap (a * c - b * d) = a * c - b * d := IntWalk.i64_in _ (by omega)
  have s6 : IntKind.i64.wrap (a * d + b * c) = a * d + b * c := IntWalk.i64_in _ (by omega)
  clear b1 b2 b3 b4 pb ha hb hc hd
  refine wp_region_still_tail 24 (by kernel_rfl) (by kernel_rfl) ?_
  simp only [List.take_succ_cons, List.take_zero, List.drop_succ_cons, List.drop_zero]
  repeat still_step
  still_call (rmod_q _ _)
  repeat still_step
  still_call (rmod_q _ _)
  refine wpStill_nil ?_
  change wpList _ _ _ _ _ W2.drew
  rw [HW.out]
  clear f0 f1 f2 f3 HW s1 s2 s3 s4 s5 s6
  go_wp2
  exact bodyPost_ret (v := .agg #[.int .i64 ((a * c - b * d) % 65521), .int .i64 ((a * d + b * c) % 65521)]) (by simp [results, Tryz.results25, go_sem]) rfl
    ⟨rfl, ((((Below.refl _ _).alloc (Nat.le_refl _) _).alloc (by simp) _).alloc (by simp only [World.size_alloc]; omega) _).drew⟩

end Go.Proofs.YtmamepmfbfinlaaGreatDoor
