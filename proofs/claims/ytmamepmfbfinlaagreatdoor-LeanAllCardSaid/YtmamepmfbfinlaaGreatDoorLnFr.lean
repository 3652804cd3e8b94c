/-
  The frame of the laws of chains: arguments opened.
-/
import Derived.Test.YtmamepmfbfinlaaGreatDoorFrame
import Derived.Test.YtmamepmfbfinlaaGreatDoorRosJ
import Derived.Test.YtmamepmfbfinlaaGreatDoorRows
import Derived.ProofKit
import Derived.SliceStrings
import Derived.Deep.Slices
import Derived.Carry
namespace Go.Proofs.YtmamepmfbfinlaaGreatDoor
open Go.ChangeShapes Go.WideShapes Go.ChangeAt Go.RowKit

theorem laidOut : laidOutB Tryz.prog = true := by kernel_rfl

theorem trod_three {H : Type} {enc : TypeId × Value → H} {P : Program} {w : World} {base : Nat} {spare : Nat → Bool} {held : Bool} {t : TypeId} {f0 f1 f2 : Field} {fuel : Nat} {cs : List Value} {x : DataW H × List MemPlace} (ht : P.underlying t = some (.struct #[f0, f1, f2]))
    (h : DataW.trod enc P w base spare held fuel t cs = some x) :
    ∃ y0 y1 y2 n, DataW.trod enc P w base spare held n f0.type ((cs.drop f0.offset).take (P.cellsOf f0.type)) = some y0 ∧ DataW.trod enc P w base spare held n f1.type ((cs.drop f1.offset).take (P.cellsOf f1.type)) = some y1 ∧ DataW.trod enc P w base spare held n f2.type ((cs.drop f2.offset).take (P.cellsOf f2.type)) = some y2 := by
  obtain ⟨xs, n, _, rfl, hl, hlen, hf⟩ := DataW.trod_struct ht h
  match xs, hlen with
  | [y0, y1, y2], _ => exact ⟨y0, y1, y2, n, by simpa using hf 0 f0 rfl, by simpa using hf 1 f1 rfl, by simpa using hf 2 f2 rfl⟩

theorem cellsInt : Tryz.prog.cellsOf 3 = 1 := by kernel_rfl
theorem cellsI64 : Tryz.prog.cellsOf 2 = 1 := by kernel_rfl
theorem cellsIs : Tryz.prog.cellsOf 22 = 1 := by kernel_rfl
theorem cellsRo : Tryz.prog.cellsOf 24 = 3 := by kernel_rfl

set_option maxRecDepth 100000 in
theorem open_ints {H : Type} {enc : TypeId × Value → H} {W : World} {a0 : Option Addr} {len cap fuel : Nat} {x : DataW H × List MemPlace}
    (hf : DataW.trod enc Tryz.prog W 0 (fun _ => true) true fuel 22 [.slice a0 len cap] = some x) :
    ∃ (b off : Nat) (cs : Nat → Int), (0 < len → a0 = some ⟨b, off, none⟩) ∧ len ≤ 9223372036854775807 ∧ (0 < len → b < W.heap.size) ∧ (∀ i, i < len → W.cell? ⟨b, off + i, none⟩ = some (.int .i64 (cs i))) := by
  rcases Deep.open_slice Tryz.underlying22 hf with ⟨hcs, hx⟩ | ⟨a, len', cap', m, n, D, Pl, hcs, _, hl, hm, hmm, hx, hel⟩
  · simp at hcs
    obtain ⟨rfl, rfl, rfl⟩ := hcs
    exact ⟨0, 0, fun _ => 0, fun h => absurd h (by omega), by omega, fun h => absurd h (by omega), fun i h => absurd h (by omega)⟩
  · simp at hcs
    obtain ⟨rfl, rfl, rfl⟩ := hcs
    simp only [if_true] at hmm
    subst hmm
    clear hx
    have hx : ∀ i, i < m → ∃ z : Int, W.cell? (a.add i) = some (.int .i64 z) := fun i hi => by
      obtain ⟨cs', hc0, ht0⟩ := hel i hi
      rw [cellsInt] at hc0
      obtain ⟨_, hl4, hcell⟩ := World.cells?_some hc0
      match cs', hl4 with
      | [c0], _ =>
        obtain ⟨z0, h0, _⟩ := DataW.trod_int Tryz.underlying3 ht0
        simp only [List.cons.injEq, and_true] at h0
        subst h0
        have e0 := hcell 0 (by omega)
        rw [Deep.add_add] at e0
        exact ⟨z0, by simpa using e0⟩
    obtain ⟨f, hf2⟩ := Deep.choose_lt hx
    obtain ⟨b, off, spot⟩ := a
    have hspot : 0 < len → spot = none := fun h0 => by
      have := hf2 0 (by omega)
      simpa [Addr.add] using World.cell?_spot this
    have add1 : ∀ j, spot = none → (⟨b, off, spot⟩ : Addr).add j = ⟨b, off + j, none⟩ := fun j e => by
      subst e
      exact Addr.add_lit ..
    refine ⟨b, off, f, fun h0 => by rw [hspot h0], by unfold maxLen at hm; omega, fun h0 => ?_, fun i hi => ?_⟩
    · have := hf2 0 (by omega)
      rw [add1 _ (hspot h0)] at this
      exact World.block_lt_of_cell? W _ this
    · have := hf2 i (by omega)
      rw [add1 _ (hspot (by omega))] at this
      exact this

set_option maxRecDepth 100000 in
theorem open_is {H : Type} {enc : TypeId × Value → H} {W : World} {c : Value} {fuel : Nat} {x : DataW H × List MemPlace}
    (hf : DataW.trod enc Tryz.prog W 0 (fun _ => true) true fuel 22 [c] = some x) (hok : ∀ a len cap, c = .slice (some a) len cap → a.spot = none ∧ a.block < W.heap.size) : ∃ l : List Int, IsAt W c l ∧ l.length ≤ 9223372036854775807 := by
  rcases Deep.open_slice Tryz.underlying22 hf with ⟨hcs, hx⟩ | ⟨a, len, cap, m, n, D, Pl, hcs, _, hl, hm, hmm, hx, hel⟩
  · simp only [List.cons.injEq, and_true] at hcs
    exact ⟨[], .inl ⟨hcs, rfl⟩, by simp⟩
  · simp only [List.cons.injEq, and_true] at hcs
    subst hcs
    simp only [if_true] at hmm
    subst hmm
    clear hx
    have hx : ∀ i, i < m → ∃ z : Int, W.cell? (a.add i) = some (.int .i64 z) := fun i hi => by
      obtain ⟨cs', hc0, ht0⟩ := hel i hi
      rw [cellsInt] at hc0
      obtain ⟨_, hl4, hcell⟩ := World.cells?_some hc0
      match cs', hl4 with
      | [c0], _ =>
        obtain ⟨z0, h0, _⟩ := DataW.trod_int Tryz.underlying3 ht0
        simp only [List.cons.injEq, and_true] at h0
        subst h0
        have e0 := hcell 0 (by omega)
        rw [Deep.add_add] at e0
        exact ⟨z0, by simpa using e0⟩
    obtain ⟨f, hf2⟩ := Deep.choose_lt hx
    unfold maxLen at hm
    obtain ⟨hsp, hbl⟩ := hok a len m rfl
    obtain ⟨b, off, spot⟩ := a
    obtain rfl : spot = none := hsp
    have add1 : ∀ j, (⟨b, off, none⟩ : Addr).add j = ⟨b, off + j, none⟩ := fun j => Addr.add_lit ..
    simp only [add1] at hf2
    refine ⟨(List.range len).map f, .inr ⟨b, off, m, by simp, by simpa using hl, by unfold maxLen; omega, hbl, ?_⟩, by simp; omega⟩
    intro j v hv
    have hj : j < len := by
      have := (List.getElem?_eq_some_iff.1 hv).1
      simpa using this
    rw [List.getElem?_map, List.getElem?_range hj, Option.map_some, Option.some.injEq] at hv
    subst hv
    exact hf2 j (by omega)

set_option maxRecDepth 100000 in
theorem open_roster {H : Type} {enc : TypeId × Value → H} {W : World} {b0 : Nat} {v : Value} {d : DataW H} {ps : List MemPlace} (hval : Value.okWide Tryz.prog W .any b0 24 v)
    (hd : DataW.Trod enc Tryz.prog W 0 (fun _ => true) true 24 v d ps) : ∃ (e nw : Int) (c : Value) (l : List Int), v = .agg #[.int .i64 e, c, .int .i64 nw] ∧ IsAt W c l ∧ l.length ≤ 9223372036854775807 ∧ (-9223372036854775808 ≤ e ∧ e ≤ 9223372036854775807) := by
  unfold Value.okWide at hval
  rw [Tryz.underlying24] at hval
  obtain ⟨cs, rfl, hs, ts, hts, _, hrow⟩ := hval
  rw [show Tryz.prog.cellTypes Tryz.prog.depth 24 = some [2, 22, 3] by kernel_rfl, Option.some.injEq] at hts
  subst hts
  rw [cellsRo] at hs
  obtain ⟨fuel, hf⟩ := hd
  obtain ⟨l⟩ := cs
  match l, hs with
  | [c0, c1, c2], _ =>
      obtain ⟨y0, y1, y2, n, t0, t1, t2⟩ := trod_three Tryz.underlying24 hf
      simp only [Value.cells, cellsI64, cellsIs, cellsInt, List.drop, List.take] at t0 t1 t2
      obtain ⟨z0, h0, _, w0⟩ := DataW.trod_int Tryz.underlying2 t0
      obtain ⟨z2, h2, _⟩ := DataW.trod_int Tryz.underlying3 t2
      simp only [List.cons.injEq, and_true] at h0 h2
      subst h0 h2
      have hok : ∀ a len cap, c1 = .slice (some a) len cap → a.spot = none ∧ a.block < W.heap.size := by
        rintro a len cap rfl
        obtain ⟨u, hu, hc⟩ := hrow 1 _ rfl
        obtain rfl : 22 = u := Option.some.inj hu
        unfold Cell.okWide Cell.ok at hc
        rw [Tryz.underlying22] at hc
        obtain ⟨_, _, _, h1, row, cells, h2, _⟩ := hc
        refine ⟨h1, ?_⟩
        rcases Nat.lt_or_ge a.block W.heap.size with h | h
        · exact h
        · rw [World.shape?, Array.getElem?_eq_none h] at h2
          cases h2
      obtain ⟨l, hv, hl⟩ := open_is t1 hok
      exact ⟨z0, z2, c1, l, rfl, hv, hl, wf_lo w0, wf_hi w0⟩

end Go.Proofs.YtmamepmfbfinlaaGreatDoor
