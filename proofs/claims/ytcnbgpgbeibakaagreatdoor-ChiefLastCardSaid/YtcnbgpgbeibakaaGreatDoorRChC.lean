/-
  Contracts of the program, and what they rest on.
-/
import Derived.Test.YtcnbgpgbeibakaaGreatDoorM27
namespace Go.Proofs.YtcnbgpgbeibakaaGreatDoor
open Go.RowKit Go.Maps Go.Proofs.MapD Go.Proofs.Chest
theorem silent_mem (hd : List Int) (now : Int) : ∀ l : List Int, silentS hd now l ≠ 0 → silentS hd now l ∈ l
  | [], h => absurd rfl h
  | n :: l, h => by
    unfold silentS at h ⊢
    split
    · simp
    · rename_i hn
      rw [if_neg hn] at h
      exact List.mem_cons_of_mem _ (silent_mem hd now l h)
end Go.Proofs.YtcnbgpgbeibakaaGreatDoor
