/-
  Contracts of the program, and what they rest on.
-/
import Derived.Test.YtadponabbkbiaaaGreatDoorM14
import Derived.Test.YtadponabbkbiaaaGreatDoorRRef2
import Derived.Test.YtadponabbkbiaaaGreatDoorRMark
namespace Go.Proofs.YtadponabbkbiaaaGreatDoor
open Go.RowKit
structure Pur0 (w W : World) (key : ByteArray) (v : Value) (l : List Ve) : Prop where
  sz : w.heap.size + 2 ≤ W.heap.size
  bl : Below w.heap.size w W
  er : EC W (w.heap.size + 1) ⟨#[]⟩ (.slice none 0 0)
  ec : EC W w.heap.size key v
  vs : VsAt W v l
theorem Pur0.below {w W W' : World} {key : ByteArray} {v : Value} {l : List Ve} (h : Pur0 w W key v l) (hb : Below W.heap.size W W') : Pur0 w W' key v l :=
  ⟨Nat.le_trans h.sz hb.size, h.bl.trans (hb.mono h.bl.size), h.er.below hb, h.ec.below hb, h.vs.below hb⟩
theorem Pur0.alloc {w W : World} {key : ByteArray} {v : Value} {l : List Ve} (h : Pur0 w W key v l) (o : Obj) : Pur0 w (W.alloc o) key v l := h.below ((Below.refl W.heap.size W).alloc (Nat.le_refl _) o)
theorem EX.below {w w' : World} {X : Nat} (h : EX w X) (hb : Below w.heap.size w w') : EX w' X := (hb.block X h.lt).trans h
theorem EX.ec {w : World} {X : Nat} (h : EX w X) : EC w X ⟨#[]⟩ (.slice none 0 0) := by
  unfold EX at h
  refine ⟨⟨?_, ?_⟩, ?_, ?_⟩
  · unfold World.cell?; simp only [h]; rfl
  · unfold World.cell?; simp only [h]; rfl
  · simp [World.frozen?, h]
  · simp [World.frozen?, h]
theorem PurS.below {w W W' : World} {X : Nat} {key : ByteArray} {v' : Value} {l : List Ve} (h : PurS w W X key v' l) (hb : Below W.heap.size W W') : PurS w W' X key v' l :=
  ⟨h.ex.below hb, h.own.below hb, h.bl.trans (hb.mono h.bl.size), h.hX, h.ne, h.er.below hb⟩
end Go.Proofs.YtadponabbkbiaaaGreatDoor
