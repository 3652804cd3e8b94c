/-
  Contracts of the program, and what they rest on.
-/
import Derived.Test.YtadponabbkbiaaaGreatDoorM03
import Derived.Lib.QuietBelow
import Derived.Test.YtadponabbkbiaaaGreatDoorRRef2
namespace Go.Proofs.YtadponabbkbiaaaGreatDoor
open Go.RowKit Go.Proofs.Flo Go.Proofs.Cpl Go.Sort
theorem BytesAt.below {w w' : World} {b off : Nat} {l : List UInt8} (h : BytesAt w b off l) (hb : Below w.heap.size w w') (hs : b < w.heap.size) : BytesAt w' b off l := by
  intro i hi
  rw [hb.cell hs]
  exact h i hi
theorem BytesAt.set {w : World} {b : Nat} {l : List UInt8} (h : BytesAt w b 0 l) (k : Nat) (hk : k < l.length) (c : UInt8) : BytesAt (w.setCell ⟨b, k, none⟩ (.int .u8 (c.toNat : Int))) b 0 (l.set k c) := by
  intro i hi
  rw [List.length_set] at hi
  have hc := h i hi
  have hck := h k hk
  rw [Nat.zero_add] at hc hck ⊢
  by_cases e : i = k
  · subst e
    rw [List.getElem_set_self]
    go_simp
  · rw [List.getElem_set_ne (fun g => e g.symm)]
    go_simp
end Go.Proofs.YtadponabbkbiaaaGreatDoor
