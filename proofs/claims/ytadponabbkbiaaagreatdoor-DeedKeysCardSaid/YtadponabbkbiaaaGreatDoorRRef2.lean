/-
  Contracts of the program, and what they rest on.
-/
import Derived.Test.YtadponabbkbiaaaGreatDoorM03
import Derived.Test.YtadponabbkbiaaaGreatDoorProg
import Derived.WalkKit
import Derived.WalkSpells
import Derived.WalkLawsBesides
import Derived.Lib.Hide
import Derived.Deep.QuietTactic
import Derived.BigQuiet
import Derived.StillTailTactics
import Derived.LoopTactic
import Derived.Deep.RegionWith
namespace Go.Proofs.YtadponabbkbiaaaGreatDoor
open Go.RowKit Go.Proofs.Flo Go.Proofs.Cpl
theorem At.below {w w' : World} {b : Nat} {p : Int × Int} (h : At w b p) (hb : Below w.heap.size w w') : At w' b p := by
  obtain ⟨⟨c0, c1⟩, ⟨z0, z1⟩, hs⟩ := h
  refine ⟨⟨?_, ?_⟩, ⟨?_, ?_⟩, Nat.lt_of_lt_of_le hs hb.size⟩
  · rw [hb.cell hs]; exact c0
  · rw [hb.cell hs]; exact c1
  · rw [hb.frozen hs]; exact z0
  · rw [hb.frozen hs]; exact z1
theorem At.alloc {w : World} {b : Nat} {p : Int × Int} (h : At w b p) (o : Obj) : At (w.alloc o) b p :=
  h.below ((Below.refl _ _).alloc (Nat.le_refl _) _)
theorem At.set {w : World} {b : Nat} {p q : Int × Int} (h : At w b p) : At ((w.setCell ⟨b, 0, none⟩ (.int .i64 q.1)).setCell ⟨b, 1, none⟩ (.int .i64 q.2)) b q := by
  obtain ⟨⟨c0, c1⟩, ⟨z0, z1⟩, hs⟩ := h
  refine ⟨⟨?_, ?_⟩, ⟨?_, ?_⟩, ?_⟩
  · go_simp
  · go_simp
  · go_simp
  · go_simp
  · simpa using hs
end Go.Proofs.YtadponabbkbiaaaGreatDoor
