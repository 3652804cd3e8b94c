/-
  Contracts of the program, and what they rest on.
-/
import Derived.Deep.Slices
import Derived.Test.YtaacdggjkfmehaaGreatDoorWdO
namespace Go.Proofs.YtaacdggjkfmehaaGreatDoor
open Go.ChangeShapes Go.WideShapes Go.ChangeAt Go.RowKit Go.ChangeMaps
set_option maxRecDepth 100000 in
theorem open_ints10 {H : Type} {enc : TypeId × Value → H} {W : World} {a0 : Option Addr} {len cap fuel : Nat} {x : DataW H × List MemPlace}
    (hf : DataW.trod enc Tryz.prog W 0 (fun _ => true) true fuel 22 [.slice a0 len cap] = some x) :
    ∃ (b off : Nat) (cs : Nat → Int), (0 < len → a0 = some ⟨b, off, none⟩) ∧ len ≤ 9223372036854775807 ∧ (0 < len → b < W.heap.size) ∧ (∀ i, i < len → W.cell? ⟨b, off + i, none⟩ = some (.int .i64 (cs i))) := by
  rcases Deep.open_slice Tryz.underlying22 hf with ⟨hcs, hx⟩ | ⟨a, len', cap', m, n, D, Pl, hcs, _, hl, hm, hmm, hx, hel⟩
  · simp at hcs
    obtain ⟨rfl, rfl, rfl⟩ := hcs
    exact ⟨0, 0, fun _ => 0, fun h => absurd h (by omega), by omega, fun h => absurd h (by omega), fun i h => absurd h (by omega)⟩
  · simp at hcs
    obtain ⟨rfl, rfl, rfl⟩ := hcs
    simp only [if_true] at hmm
    subst hmm
    clear hx
    have hx : ∀ i, i < m → ∃ z : Int, W.cell? (a.add i) = some (.int .i64 z) := fun i hi => by
      obtain ⟨cs', hc0, ht0⟩ := hel i hi
      rw [wcellsInt] at hc0
      obtain ⟨_, hl4, hcell⟩ := World.cells?_some hc0
      match cs', hl4 with
      | [c0], _ =>
        obtain ⟨z0, h0, _⟩ := DataW.trod_int Tryz.underlying3 ht0
        simp only [List.cons.injEq, and_true] at h0
        subst h0
        have e0 := hcell 0 (by omega)
        rw [Deep.add_add] at e0
        exact ⟨z0, by simpa using e0⟩
    obtain ⟨f, hf2⟩ := Deep.choose_lt hx
    obtain ⟨b, off, spot⟩ := a
    have hspot : 0 < len → spot = none := fun h0 => by
      have := hf2 0 (by omega)
      simpa [Addr.add] using World.cell?_spot this
    have add1 : ∀ j, spot = none → (⟨b, off, spot⟩ : Addr).add j = ⟨b, off + j, none⟩ := fun j e => by
      subst e
      exact Addr.add_lit ..
    refine ⟨b, off, f, fun h0 => by rw [hspot h0], by unfold maxLen at hm; omega, fun h0 => ?_, fun i hi => ?_⟩
    · have := hf2 0 (by omega)
      rw [add1 _ (hspot h0)] at this
      exact World.block_lt_of_cell? W _ this
    · have := hf2 i (by omega)
      rw [add1 _ (hspot (by omega))] at this
      exact this
end Go.Proofs.YtaacdggjkfmehaaGreatDoor
