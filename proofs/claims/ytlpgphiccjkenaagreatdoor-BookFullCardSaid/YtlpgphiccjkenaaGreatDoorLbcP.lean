/-
 Contracts of the program, and what they rest on.
-/
import Derived.Test.YtlpgphiccjkenaaGreatDoorM29
import Derived.Test.YtlpgphiccjkenaaGreatDoorM03
namespace Go.Proofs.YtlpgphiccjkenaaGreatDoor
open Go.RowKit
theorem c_wf4 {s : Bk} (h : isI s.seq ∧ (∀ e ∈ s.l, ∀ v ∈ e.vs, isI v.ver) ∧ (∀ m ∈ s.ms, isI m.req ∧ isI m.res.err ∧ isI m.res.ver) ∧ ∀ n ∈ lowL s, isI n) : s.wf := (bk_wf4 s h).wf
end Go.Proofs.YtlpgphiccjkenaaGreatDoor
