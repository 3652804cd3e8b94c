/-
  Contracts of the program, and what they rest on.
-/
import Derived.Test.YtaacdggjkfmehaaGreatDoorProg
import Derived.WalkKit
import Derived.WalkSpells
import Derived.WalkLawsBesides
import Derived.Lib.Hide
import Derived.BigQuiet
import Derived.Deep.RegionLaw
import Derived.Deep.RegionHeld3
import Derived.BigRegion
namespace Go.Proofs.YtaacdggjkfmehaaGreatDoor
open Go.RowKit
section
variable {P : Program} {ops : Array Oper} {Q : Exit → Act → World → Prop} {S : World → Prop}
def seqH (ops : Array Oper) : Array Bool → List (Bool × Nat) → Bool
  | L, [] => (Region.ready .any ops L).isEmpty
  | L, (true, i) :: r => Region.free .any ops L i && (Region.ready .any ops L).contains i && seqH ops (L.setIfInBounds i true) r
  | L, (false, i) :: r => (Region.ready .any ops L == [i]) && seqH ops (L.setIfInBounds i true) r
theorem held_take {i : Nat} {r : List (Bool × Nat)} {oi : Oper} {v : Value} {fuel : Nat} {L : Array Bool} {a : Act} {w : World} (hc : seqH ops L ((true, i) :: r) = true) (hs : Region.noSelect ops = true) (hi : ops[i]? = some oi)
    (hQ : ∀ c a w, Q (.panic c) (a.put oi.dst v) w → Q (.panic c) a w) (hy : YieldsIf P ops S oi v a) (hS : S w)
    (h : ∀ L', seqH ops L' r = true → wpAnyH P .any ops Q S fuel L' (a.put oi.dst v) w) : wpAnyH P .any ops Q S (fuel + 1) L a w := by
  unfold seqH at hc
  simp only [Bool.and_eq_true] at hc
  exact wpAnyH_take hi hs hc.1.1 hc.1.2 hQ hy hS (h _ hc.2)
theorem held_one {i : Nat} {r : List (Bool × Nat)} {o : Oper} {fuel : Nat} {L : Array Bool} {a : Act} {w : World} (hc : seqH ops L ((false, i) :: r) = true) (hi : ops[i]? = some o)
    (h : ∀ K' : Act → World → Prop, Shut (∀ a w, S w → (∀ L', S w → seqH ops L' r = true → wpAnyH P .any ops Q S fuel L' a w) → K' a w) → if Region.wanted o (yielded ops a.tmps) = true then Oper.wp P o a w K' Q else K' (a.put o.dst undef) w) :
    wpAnyH P .any ops Q S (fuel + 1) L a w := by
  unfold seqH at hc
  simp only [Bool.and_eq_true, beq_iff_eq] at hc
  exact wpAnyH_ready hc.1 (by simp) (AllReadyH.cons hi (fun K' hK => h K' (fun a w hS hW => hK.out a w hS (fun h1 => hW _ h1 hc.2))) AllReadyH.nil)
theorem hk (i : Nat) (v : Value) {r : List (Bool × Nat)} {oi : Oper} {fuel : Nat} {L : Array Bool} {a : Act} {w : World} (hc : seqH ops L ((true, i) :: r) = true) (hi : ops[i]? = some oi) (hy : ∀ w, S w → (execOp a.eval oi).run P w = .ok (.value v) w) (hS : S w)
    (h : ∀ L', seqH ops L' r = true → wpAnyH P .any ops Q S fuel L' (a.put oi.dst v) w) (hs : Region.noSelect ops = true := by kernel_rfl) (hQ : ∀ c a w, Q (.panic c) (a.put oi.dst v) w → Q (.panic c) a w := by exact fun _ _ _ h => h) (hw : Region.wanted oi (yielded ops a.tmps) = true := by kernel_rfl) : wpAnyH P .any ops Q S (fuel + 1) L a w :=
  held_take hc hs hi hQ (.inl ⟨hw, hy⟩) hS h
theorem hu (i : Nat) {r : List (Bool × Nat)} {oi : Oper} {fuel : Nat} {L : Array Bool} {a : Act} {w : World} (hc : seqH ops L ((true, i) :: r) = true) (hi : ops[i]? = some oi) (hS : S w)
    (h : ∀ L', seqH ops L' r = true → wpAnyH P .any ops Q S fuel L' (a.put oi.dst undef) w) (hs : Region.noSelect ops = true := by kernel_rfl) (hQ : ∀ c a w, Q (.panic c) (a.put oi.dst undef) w → Q (.panic c) a w := by exact fun _ _ _ h => h) (hw : Region.wanted oi (yielded ops a.tmps) = false := by kernel_rfl) : wpAnyH P .any ops Q S (fuel + 1) L a w :=
  held_take hc hs hi hQ (.inr ⟨hw, rfl⟩) hS h
theorem held_done {L : Array Bool} {a : Act} {w : World} (hc : seqH ops L [] = true) (h : Q .normal a w) (fuel : Nat) : wpAnyH P .any ops Q S fuel L a w := by
  unfold seqH at hc
  exact wpAnyH_done (List.isEmpty_iff.1 hc) h fuel
theorem wp_region_seq {id : Nat} {a : Act} {w : World} {r : List (Bool × Nat)} (hm : P.follows .mixedOrders = true) (hc : seqH ops (Array.replicate ops.size false) r = true)
    (h : ∀ L, seqH ops L r = true → wpAnyH P .any ops Q S ops.size L a w.drew) : (Code.region id ops true).wp P Q a w :=
  wp_region_held hm (h _ hc)
end
def opsIn : Code → Nat → Option (Array Oper)
  | .region id ops _, n => if id = n then some ops else none
  | .seq a b, n => match opsIn a n with | some o => some o | none => opsIn b n
  | .cond _ a b, n => match opsIn a n with | some o => some o | none => opsIn b n
  | .block _ a, n => opsIn a n
  | .loop a, n => opsIn a n
  | _, _ => none
def seqIn (f : Func) (n : Nat) (r : List (Bool × Nat)) : Bool := match f.body.bind (opsIn · n) with | some ops => seqH ops (Array.replicate ops.size false) r | none => false
theorem seq_of {f : Func} {n : Nat} {r : List (Bool × Nat)} {ops : Array Oper} (h : f.body.bind (opsIn · n) = some ops) (hl : seqIn f n r = true) : seqH ops (Array.replicate ops.size false) r = true := by
  unfold seqIn at hl
  rw [h] at hl
  exact hl
end Go.Proofs.YtaacdggjkfmehaaGreatDoor
