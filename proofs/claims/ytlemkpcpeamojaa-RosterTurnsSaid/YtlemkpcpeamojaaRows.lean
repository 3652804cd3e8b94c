/-
  No cell of these rows narrows 'for every input' (looked for: loops, veiled, ifaces, maps, wideKeys, modest, calm, conditions, laid).
  DERIVED. THE GIVEN ROWS OF THIS SEAT. 6 by the template 'for every input the law returns true; each argument reads behind the call as it read before'; 0 by the template 'total and deterministic' (their statements: YtlemkpcpeamojaaTotals.lean).
  GIVEN WITH THE SEED: the statements are not yours to turn. If you find one false, say at which input.
  Laid BY PROGRAM, IN A SANDBOX (cutbox-rows.mjs): the forced cells as the released guide's own fill.sh prints them over the translation 6b7f293feb8f9e35… (all of the seat's roots in one cut). By AI agents, Wed Nov 11 2026. No macro, syntax, notation, axiom, sorry.
-/
import Derived.Test.YtlemkpcpeamojaaChecked
import GoSem.Claim
import GoSem.ClaimJoined
import GoSem.ClaimMapViews
import Derived.JoinedTies
import Derived.KernelRfl
namespace Go.Proofs.Ytlemkpcpeamojaa
/- THE CELL 'sum', in the pinned program and in every row, IS THE sha256 OF THE DUMP (.gsa) THAT YtlemkpcpeamojaaProg.lean LOADS. Nothing in Lean hashes anything: it is a label: what it is worth is what the hold of that sum in a sandbox is worth. -/
noncomputable def Try.pinned : Pinned := { name := "ytlemkpcpeamojaa", sum := "6b7f293feb8f9e3596896eeccb0a0c0e4d58430d1a496fe684ff04bc28ad685a", checked := Try.checked }
namespace Rows
def none {H : Type} : Left H := { results := [], args := [] }

/-- 'armariumlaw9.RosterAll': WHATEVER THE INPUT: true; the input reads as it did. -/
def rosterAllSpec : ChangeSpec := { name := "rosterAll", fn := fun _ => fun
  | [d1, d2] => { results := [.lit (.bool true)], args := [d1, d2] }
  | _ => none }
def rosterAllRow : OpenClaim := { program := "ytlemkpcpeamojaa", sum := "6b7f293feb8f9e3596896eeccb0a0c0e4d58430d1a496fe684ff04bc28ad685a", func := "armarium/armariumlaw9.RosterAll", spec := "rosterAll", apart := false }
def RosterAllSaid : Prop := rosterAllRow.holds Try.pinned (OpenSpec.ofChange rosterAllSpec)

/-- ITS FALSE NEIGHBOUR: 'it returns false'. Refute it at one input. -/
def rosterAllWrong : ChangeSpec := { name := "rosterAll", fn := fun _ => fun
  | [d1, d2] => { results := [.lit (.bool false)], args := [d1, d2] }
  | _ => none }
def RosterAllWrongFalsely : Prop := rosterAllRow.holds Try.pinned (OpenSpec.ofChange rosterAllWrong)

/-- 'armariumlaw9.RosterEq': WHATEVER THE INPUT: true; the input reads as it did. -/
def rosterEqSpec : ChangeSpec := { name := "rosterEq", fn := fun _ => fun
  | [d1, d2, d3, d4] => { results := [.lit (.bool true)], args := [d1, d2, d3, d4] }
  | _ => none }
def rosterEqRow : OpenClaim := { program := "ytlemkpcpeamojaa", sum := "6b7f293feb8f9e3596896eeccb0a0c0e4d58430d1a496fe684ff04bc28ad685a", func := "armarium/armariumlaw9.RosterEq", spec := "rosterEq", apart := false }
def RosterEqSaid : Prop := rosterEqRow.holds Try.pinned (OpenSpec.ofChange rosterEqSpec)

/-- ITS FALSE NEIGHBOUR: 'it returns false'. Refute it at one input. -/
def rosterEqWrong : ChangeSpec := { name := "rosterEq", fn := fun _ => fun
  | [d1, d2, d3, d4] => { results := [.lit (.bool false)], args := [d1, d2, d3, d4] }
  | _ => none }
def RosterEqWrongFalsely : Prop := rosterEqRow.holds Try.pinned (OpenSpec.ofChange rosterEqWrong)

/-- 'armariumlaw9.RosterWay': WHATEVER THE INPUT: true; the input reads as it did. -/
def rosterWaySpec : ChangeSpec := { name := "rosterWay", fn := fun _ => fun
  | [d] => { results := [.lit (.bool true)], args := [d] }
  | _ => none }
def rosterWayRow : OpenClaim := { program := "ytlemkpcpeamojaa", sum := "6b7f293feb8f9e3596896eeccb0a0c0e4d58430d1a496fe684ff04bc28ad685a", func := "armarium/armariumlaw9.RosterWay", spec := "rosterWay", apart := false }
def RosterWaySaid : Prop := rosterWayRow.holds Try.pinned (OpenSpec.ofChange rosterWaySpec)

/-- ITS FALSE NEIGHBOUR: 'it returns false'. Refute it at one input. -/
def rosterWayWrong : ChangeSpec := { name := "rosterWay", fn := fun _ => fun
  | [d] => { results := [.lit (.bool false)], args := [d] }
  | _ => none }
def RosterWayWrongFalsely : Prop := rosterWayRow.holds Try.pinned (OpenSpec.ofChange rosterWayWrong)

/-- 'armariumlaw9.RosterTurns': WHATEVER THE INPUT: true; the input reads as it did. -/
def rosterTurnsSpec : ChangeSpec := { name := "rosterTurns", fn := fun _ => fun
  | [d1, d2, d3] => { results := [.lit (.bool true)], args := [d1, d2, d3] }
  | _ => none }
def rosterTurnsRow : OpenClaim := { program := "ytlemkpcpeamojaa", sum := "6b7f293feb8f9e3596896eeccb0a0c0e4d58430d1a496fe684ff04bc28ad685a", func := "armarium/armariumlaw9.RosterTurns", spec := "rosterTurns", apart := false }
def RosterTurnsSaid : Prop := rosterTurnsRow.holds Try.pinned (OpenSpec.ofChange rosterTurnsSpec)

/-- ITS FALSE NEIGHBOUR: 'it returns false'. Refute it at one input. -/
def rosterTurnsWrong : ChangeSpec := { name := "rosterTurns", fn := fun _ => fun
  | [d1, d2, d3] => { results := [.lit (.bool false)], args := [d1, d2, d3] }
  | _ => none }
def RosterTurnsWrongFalsely : Prop := rosterTurnsRow.holds Try.pinned (OpenSpec.ofChange rosterTurnsWrong)

/-- 'armariumlaw9.RosterOwn': WHATEVER THE INPUT: true; the input reads as it did. -/
def rosterOwnSpec : ChangeSpec := { name := "rosterOwn", fn := fun _ => fun
  | [d1, d2] => { results := [.lit (.bool true)], args := [d1, d2] }
  | _ => none }
def rosterOwnRow : OpenClaim := { program := "ytlemkpcpeamojaa", sum := "6b7f293feb8f9e3596896eeccb0a0c0e4d58430d1a496fe684ff04bc28ad685a", func := "armarium/armariumlaw9.RosterOwn", spec := "rosterOwn", apart := false }
def RosterOwnSaid : Prop := rosterOwnRow.holds Try.pinned (OpenSpec.ofChange rosterOwnSpec)

/-- ITS FALSE NEIGHBOUR: 'it returns false'. Refute it at one input. -/
def rosterOwnWrong : ChangeSpec := { name := "rosterOwn", fn := fun _ => fun
  | [d1, d2] => { results := [.lit (.bool false)], args := [d1, d2] }
  | _ => none }
def RosterOwnWrongFalsely : Prop := rosterOwnRow.holds Try.pinned (OpenSpec.ofChange rosterOwnWrong)

/-- 'armariumlaw9.RosterBack': WHATEVER THE INPUT: true; the input reads as it did. -/
def rosterBackSpec : ChangeSpec := { name := "rosterBack", fn := fun _ => fun
  | [d1, d2] => { results := [.lit (.bool true)], args := [d1, d2] }
  | _ => none }
def rosterBackRow : OpenClaim := { program := "ytlemkpcpeamojaa", sum := "6b7f293feb8f9e3596896eeccb0a0c0e4d58430d1a496fe684ff04bc28ad685a", func := "armarium/armariumlaw9.RosterBack", spec := "rosterBack", apart := false }
def RosterBackSaid : Prop := rosterBackRow.holds Try.pinned (OpenSpec.ofChange rosterBackSpec)

/-- ITS FALSE NEIGHBOUR: 'it returns false'. Refute it at one input. -/
def rosterBackWrong : ChangeSpec := { name := "rosterBack", fn := fun _ => fun
  | [d1, d2] => { results := [.lit (.bool false)], args := [d1, d2] }
  | _ => none }
def RosterBackWrongFalsely : Prop := rosterBackRow.holds Try.pinned (OpenSpec.ofChange rosterBackWrong)

/- THE SECOND FORM. 'bulk': how many values and letters a reading holds, each counted each time it is reached (what is shared counts as often as it is met; a slice's spare places count too). A statement '..UptoSaid' is the law's where the arguments, and the package variables that the reading takes, are together of bulk at most 1048576: NARROWER than '..Said'. Prove '..Said' where nothing that the law and all that it calls make is longer than what came in: it says more and counts as full. Else prove '..UptoSaid'. A law counts once. -/
mutual
def uptoBulk {H : Type} : DataW H → Nat
  | .lit (.string bytes) => bytes.length + 1
  | .lit _ => 1
  | .nil => 1
  | .ptr d => uptoBulk d + 1
  | .slice elems spare => uptoBulkAll elems + uptoBulkAll spare + 1
  | .agg parts => uptoBulkAll parts + 1
  | .iface _ d => uptoBulk d + 1
  | .map entries => uptoBulkEntries entries + 1
  | .held _ => 1
def uptoBulkAll {H : Type} : List (DataW H) → Nat
  | [] => 0
  | d :: r => uptoBulk d + uptoBulkAll r
def uptoBulkEntries {H : Type} : List (Lit × DataW H) → Nat
  | [] => 0
  | x :: r => uptoBulkEntry x + uptoBulkEntries r
def uptoBulkEntry {H : Type} : Lit × DataW H → Nat
  | (.string bytes, d) => bytes.length + uptoBulk d + 1
  | (_, d) => uptoBulk d + 1
 end
def uptoSmall : (H : Type) → List (DataW H) → Bool := fun _ ds => decide (uptoBulkAll ds ≤ 1048576)
def OpenSpec.upto (s : _root_.Go.ChangeSpec) : _root_.Go.OpenSpec := { _root_.Go.OpenSpec.ofChange s with cond := some uptoSmall }

/-- 'armariumlaw9.RosterAll', WHERE WHAT IT READS IS OF BULK AT MOST 1048576: true; the input reads as it did. -/
def rosterAllUptoRow : OpenClaim := { program := "ytlemkpcpeamojaa", sum := "6b7f293feb8f9e3596896eeccb0a0c0e4d58430d1a496fe684ff04bc28ad685a", func := "armarium/armariumlaw9.RosterAll", spec := "rosterAll", apart := false, narrowed := true }
def RosterAllUptoSaid : Prop := rosterAllUptoRow.holds Try.pinned (OpenSpec.upto rosterAllSpec)

/-- 'armariumlaw9.RosterEq', WHERE WHAT IT READS IS OF BULK AT MOST 1048576: true; the input reads as it did. -/
def rosterEqUptoRow : OpenClaim := { program := "ytlemkpcpeamojaa", sum := "6b7f293feb8f9e3596896eeccb0a0c0e4d58430d1a496fe684ff04bc28ad685a", func := "armarium/armariumlaw9.RosterEq", spec := "rosterEq", apart := false, narrowed := true }
def RosterEqUptoSaid : Prop := rosterEqUptoRow.holds Try.pinned (OpenSpec.upto rosterEqSpec)

/-- 'armariumlaw9.RosterWay', WHERE WHAT IT READS IS OF BULK AT MOST 1048576: true; the input reads as it did. -/
def rosterWayUptoRow : OpenClaim := { program := "ytlemkpcpeamojaa", sum := "6b7f293feb8f9e3596896eeccb0a0c0e4d58430d1a496fe684ff04bc28ad685a", func := "armarium/armariumlaw9.RosterWay", spec := "rosterWay", apart := false, narrowed := true }
def RosterWayUptoSaid : Prop := rosterWayUptoRow.holds Try.pinned (OpenSpec.upto rosterWaySpec)

/-- 'armariumlaw9.RosterTurns', WHERE WHAT IT READS IS OF BULK AT MOST 1048576: true; the input reads as it did. -/
def rosterTurnsUptoRow : OpenClaim := { program := "ytlemkpcpeamojaa", sum := "6b7f293feb8f9e3596896eeccb0a0c0e4d58430d1a496fe684ff04bc28ad685a", func := "armarium/armariumlaw9.RosterTurns", spec := "rosterTurns", apart := false, narrowed := true }
def RosterTurnsUptoSaid : Prop := rosterTurnsUptoRow.holds Try.pinned (OpenSpec.upto rosterTurnsSpec)

/-- 'armariumlaw9.RosterOwn', WHERE WHAT IT READS IS OF BULK AT MOST 1048576: true; the input reads as it did. -/
def rosterOwnUptoRow : OpenClaim := { program := "ytlemkpcpeamojaa", sum := "6b7f293feb8f9e3596896eeccb0a0c0e4d58430d1a496fe684ff04bc28ad685a", func := "armarium/armariumlaw9.RosterOwn", spec := "rosterOwn", apart := false, narrowed := true }
def RosterOwnUptoSaid : Prop := rosterOwnUptoRow.holds Try.pinned (OpenSpec.upto rosterOwnSpec)

/-- 'armariumlaw9.RosterBack', WHERE WHAT IT READS IS OF BULK AT MOST 1048576: true; the input reads as it did. -/
def rosterBackUptoRow : OpenClaim := { program := "ytlemkpcpeamojaa", sum := "6b7f293feb8f9e3596896eeccb0a0c0e4d58430d1a496fe684ff04bc28ad685a", func := "armarium/armariumlaw9.RosterBack", spec := "rosterBack", apart := false, narrowed := true }
def RosterBackUptoSaid : Prop := rosterBackUptoRow.holds Try.pinned (OpenSpec.upto rosterBackSpec)

end Rows
end Go.Proofs.Ytlemkpcpeamojaa
