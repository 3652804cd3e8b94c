/-
  Contracts of the program, and what they rest on.
-/
import Derived.Test.YtaacdggjkfmehaaGreatDoorTie
import Derived.Test.YtaacdggjkfmehaaGreatDoorM07
import Derived.ProofKit
import Derived.LaidMore
import Derived.OpenShut
import Derived.Stop.Joined
import Derived.Stop.LaidErr
import Derived.Lib.LaidTab
import Derived.Lib.TrailingZeros
import Derived.SevenTiedAt
import Derived.Test.YtaacdggjkfmehaaGreatDoorM22
import Derived.ChangeArms
import Derived.Deep.Slices
import Derived.Test.YtaacdggjkfmehaaGreatDoorWdO
import Derived.Test.YtaacdggjkfmehaaGreatDoorOpA
namespace Go.Proofs.YtaacdggjkfmehaaGreatDoor
open Go.ChangeShapes Go.WideShapes Go.ChangeAt Go.RowKit Go.ChangeMaps
theorem wcellsOp : Tryz.prog.cellsOf 48 = 25 := by kernel_rfl
theorem wcellsBool : Tryz.prog.cellsOf 4 = 1 := by kernel_rfl
set_option linter.unusedSimpArgs false in
set_option maxRecDepth 100000 in
theorem trod_op {H : Type} {enc : TypeId × Value → H} {W : World} {spare : Nat → Bool} {held : Bool} {fuel : Nat} {cs : List Value} {x : DataW H × List MemPlace}
    (h : DataW.trod enc Tryz.prog W 0 spare held fuel 48 cs = some x) : ∃ d : OpD, cs = (opcells d).toList := by
  obtain ⟨n, hl, hf⟩ := trod_field Tryz.underlying48 h
  rw [wcellsOp] at hl
  match cs, hl with
  | [c0, c1, c2, c3, c4, c5, c6, c7, c8, c9, c10, c11, c12, c13, c14, c15, c16, c17, c18, c19, c20, c21, c22, c23, c24], _ =>
    obtain ⟨_, t0⟩ := hf 0 _ rfl
    obtain ⟨_, t1⟩ := hf 1 _ rfl
    obtain ⟨_, t2⟩ := hf 2 _ rfl
    obtain ⟨_, t3⟩ := hf 3 _ rfl
    obtain ⟨_, t4⟩ := hf 4 _ rfl
    simp only [List.getElem_toArray, List.getElem_cons_succ, List.getElem_cons_zero, wcellsWd, wcellsInt, wcellsBool, List.drop, List.take] at t0 t1 t2 t3 t4
    obtain ⟨z0, e0, _⟩ := DataW.trod_int Tryz.underlying3 t0
    obtain ⟨z1, e1, _⟩ := DataW.trod_int Tryz.underlying3 t1
    obtain ⟨z2, e2, _⟩ := DataW.trod_int Tryz.underlying3 t2
    obtain ⟨z3, e3, _⟩ := DataW.trod_bool Tryz.underlying4 t3
    obtain ⟨k, m, to, ep, q, e4⟩ := trod_word t4
    simp only [List.cons.injEq, and_true] at e0 e1 e2 e3 e4
    obtain ⟨g0, g1, g2, g3, g4, g5, g6, g7, g8, g9, g10, g11, g12, g13, g14, g15, g16, g17, g18, g19, g20⟩ := e4
    subst e0 e1 e2 e3 g0 g1 g2 g3 g4 g5 g6 g7 g8 g9 g10 g11 g12 g13 g14 g15 g16 g17 g18 g19 g20
    exact ⟨⟨z0, z1, z2, z3, k, m, to, ep, q⟩, rfl⟩
set_option maxRecDepth 100000 in
theorem open_ops10 {H : Type} {enc : TypeId × Value → H} {W : World} {a0 : Option Addr} {len cap fuel : Nat} {x : DataW H × List MemPlace}
    (hf : DataW.trod enc Tryz.prog W 0 (fun _ => true) true fuel 25 [.slice a0 len cap] = some x) :
    ∃ (b off : Nat) (D : Nat → OpD), (0 < len → a0 = some ⟨b, off, none⟩) ∧ len ≤ 9223372036854775807 ∧ (0 < len → b < W.heap.size) ∧ (∀ i, i < len → OpAt W b (off + i * 25) (D i)) := by
  rcases Deep.open_slice Tryz.underlying25 hf with ⟨hcs, hx⟩ | ⟨a, len', cap', m, n, D, Pl, hcs, _, hl, hm, hmm, hx, hel⟩
  · simp at hcs
    obtain ⟨rfl, rfl, rfl⟩ := hcs
    exact ⟨0, 0, fun _ => default, fun h => absurd h (by omega), by omega, fun h => absurd h (by omega), fun i h => absurd h (by omega)⟩
  · simp at hcs
    obtain ⟨rfl, rfl, rfl⟩ := hcs
    simp only [if_true] at hmm
    subst hmm
    clear hx
    have hx : ∀ i, i < m → ∃ d : OpD, ∀ j u, (opcells d)[j]? = some u → W.cell? (a.add (i * 25 + j)) = some u := fun i hi => by
      obtain ⟨cs', hc0, ht0⟩ := hel i hi
      rw [wcellsOp] at hc0
      obtain ⟨_, hl4, hcell⟩ := World.cells?_some hc0
      obtain ⟨d, rfl⟩ := trod_op ht0
      refine ⟨d, fun j u hu => ?_⟩
      have hj : j < 25 := by
        have := (Array.getElem?_eq_some_iff.1 hu).1
        simpa [opcells] using this
      have e0 := hcell j hj
      rw [Deep.add_add] at e0
      rw [e0]
      simpa using hu
    obtain ⟨f, hf2⟩ := Deep.choose_lt hx
    obtain ⟨b, off, spot⟩ := a
    have add4 : ∀ j, spot = none → (⟨b, off, spot⟩ : Addr).add j = ⟨b, off + j, none⟩ := fun j e => by
      subst e
      exact Addr.add_lit ..
    have hspot : 0 < len → spot = none := fun h0 => by
      have := hf2 0 (by omega) 0 _ rfl
      simpa [Addr.add] using World.cell?_spot this
    refine ⟨b, off, f, fun h0 => by rw [hspot h0], by unfold maxLen at hm; omega, fun h0 => ?_, fun i hi j u hu => ?_⟩
    · have := hf2 0 (by omega) 0 _ rfl
      rw [add4 _ (hspot h0)] at this
      exact World.block_lt_of_cell? W _ this
    · have := hf2 i (by omega) j u hu
      rw [add4 _ (hspot (by omega))] at this
      rw [← this]
      congr 2
      omega
end Go.Proofs.YtaacdggjkfmehaaGreatDoor
