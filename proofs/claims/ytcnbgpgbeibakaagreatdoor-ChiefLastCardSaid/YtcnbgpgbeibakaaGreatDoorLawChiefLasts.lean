/-
  Contracts of the program, and what they rest on.
-/
import Derived.Test.YtcnbgpgbeibakaaGreatDoorM34
namespace Go.Proofs.YtcnbgpgbeibakaaGreatDoor
open Go.RowKit Go.Maps Go.Proofs.MapD Go.Proofs.Chest
theorem isat_one (w : World) (x : Int) : IsAt (w.alloc (.cells #[.int .i64 x] 3)) (.slice (some ⟨w.heap.size, 0, none⟩) 1 1) [x] :=
  .inr ⟨w.heap.size, 0, 1, rfl, by simp, by unfold maxLen; omega, by simp, fun j z hz => by
    match j, hz with
    | 0, hz => simp at hz; subst hz; go_simp
    | j + 1, hz => simp at hz⟩
end Go.Proofs.YtcnbgpgbeibakaaGreatDoor
