/-
  A chain turned round, plainly.
-/
import Derived.Test.YtmamepmfbfinlaaGreatDoorLnR
import Derived.Test.YtmamepmfbfinlaaGreatDoorRegLast
namespace Go.Proofs.YtmamepmfbfinlaaGreatDoor
open Go.RowKit Go.Proofs.Cpl

/-- The block of a slice is as it was. -/
def SameB (W W' : World) (v : Value) : Prop := ∀ j, v.ownBlock = some j → W'.heap[j]? = W.heap[j]?

/-- The first k of a chain that is turned by z. -/
def rotI (l : List Int) (z k : Nat) : List Int := (List.range k).map fun i => l.getD ((i + z) % l.length) 0

theorem rot_len (l : List Int) (z k : Nat) : (rotI l z k).length = k := by unfold rotI; simp

theorem rot_step (l : List Int) (z k : Nat) {x : Int} (h : l[(k + z) % l.length]? = some x) : rotI l z (k + 1) = rotI l z k ++ [x] := by
  unfold rotI
  rw [List.range_succ, List.map_append, List.map_singleton, List.getD_eq_getElem?_getD, h]
  rfl

theorem rot_mem (l : List Int) (z : Nat) (hz : z < l.length) (x : Int) : x ∈ l ↔ x ∈ rotI l z l.length := by
  unfold rotI
  rw [List.mem_map]
  constructor
  · intro hx
    obtain ⟨j, hj, rfl⟩ := List.getElem_of_mem hx
    by_cases h : z ≤ j
    · refine ⟨j - z, List.mem_range.2 (by omega), ?_⟩
      rw [show j - z + z = j by omega, Nat.mod_eq_of_lt hj, List.getD_eq_getElem?_getD, List.getElem?_eq_getElem hj]
      rfl
    · refine ⟨j + l.length - z, List.mem_range.2 (by omega), ?_⟩
      rw [show j + l.length - z + z = j + l.length by omega, Nat.add_mod_right, Nat.mod_eq_of_lt hj, List.getD_eq_getElem?_getD, List.getElem?_eq_getElem hj]
      rfl
  · rintro ⟨i, _, rfl⟩
    have hlt : (i + z) % l.length < l.length := Nat.mod_lt _ (by omega)
    rw [List.getD_eq_getElem?_getD, List.getElem?_eq_getElem hlt]
    exact List.getElem_mem hlt

theorem pick_rot (zz : Int × Int) (l : List Int) (z : Nat) (hz : z < l.length) : pickI zz (rotI l z l.length) 0 = pickI zz l 0 := (pick_same zz 0 (rot_mem l z hz)).symm

theorem cho_rot (l : List Int) (z : Nat) (hz : z < l.length) (h : choI l 0 ≠ [] ∨ l = []) : choI (rotI l z l.length) 0 ≠ [] ∨ rotI l z l.length = [] := by
  rw [← cho_same 0 (rot_mem l z hz)]
  rcases h with h | h
  · exact .inl h
  · subst h; simp at hz

theorem tmod_nat (a b : Nat) : ((a : Int)).tmod (b : Int) = ((a % b : Nat) : Int) := rfl

end Go.Proofs.YtmamepmfbfinlaaGreatDoor
