/-
  Contracts of the program, and what they rest on.
-/
import Derived.Test.YtaacdggjkfmehaaGreatDoorProg
import Derived.WalkKit
import Derived.WalkSpells
import Derived.WalkLawsBesides
import Derived.Lib.Hide
import Derived.BigQuiet
import Derived.Deep.RegionLaw
import Derived.Deep.RegionHeld3
import Derived.BigRegion
import Derived.Test.YtaacdggjkfmehaaGreatDoorHeldS
namespace Go.Proofs.YtaacdggjkfmehaaGreatDoor
open Go.RowKit
def seqR (ops : Array Oper) : Array Bool → List (Bool × Nat) → Option (Array Bool)
  | L, [] => some L
  | L, (true, i) :: r => if Region.free .any ops L i && (Region.ready .any ops L).contains i then seqR ops (L.setIfInBounds i true) r else none
  | L, (false, i) :: r => if Region.ready .any ops L == [i] then seqR ops (L.setIfInBounds i true) r else none
theorem seqR_app {ops : Array Oper} : ∀ (l : List (Bool × Nat)) {L L' : Array Bool} {r : List (Bool × Nat)}, seqR ops L l = some L' → seqH ops L' r = true → seqH ops L (l ++ r) = true
  | [], L, L', r, h, k => by
    injection h with h
    rw [h]
    exact k
  | (true, i) :: l, L, L', r, h, k => by
    unfold seqR at h
    split at h
    · rename_i hc
      show (Region.free .any ops L i && (Region.ready .any ops L).contains i && seqH ops (L.setIfInBounds i true) (l ++ r)) = true
      rw [hc, seqR_app l h k]
      rfl
    · cases h
  | (false, i) :: l, L, L', r, h, k => by
    unfold seqR at h
    split at h
    · rename_i hc
      show ((Region.ready .any ops L == [i]) && seqH ops (L.setIfInBounds i true) (l ++ r)) = true
      rw [hc, seqR_app l h k]
      rfl
    · cases h
def pieceIn (f : Func) (n : Nat) (L L' : Array Bool) (l : List (Bool × Nat)) : Bool := match f.body.bind (opsIn · n) with | some ops => seqR ops L l == some L' | none => false
theorem piece_of {f : Func} {n : Nat} {L L' : Array Bool} {l : List (Bool × Nat)} {ops : Array Oper} (h : f.body.bind (opsIn · n) = some ops) (hl : pieceIn f n L L' l = true) : seqR ops L l = some L' := by
  unfold pieceIn at hl
  rw [h] at hl
  exact eq_of_beq hl
def eqlO0 : List (Bool × Nat) := [(true, 0), (true, 1), (true, 2), (true, 3), (true, 4), (true, 5), (true, 6), (true, 7), (true, 8), (true, 9), (true, 10), (true, 11), (true, 12)]
def eqlO1 : List (Bool × Nat) := [(true, 13), (true, 14), (true, 15), (true, 16), (true, 17), (true, 18), (true, 19), (true, 20), (true, 21), (true, 22), (true, 23), (true, 24), (true, 25)]
def eqlO2 : List (Bool × Nat) := [(true, 26), (true, 27), (true, 28), (true, 29), (true, 30), (true, 31), (true, 32), (true, 33), (true, 34), (true, 35), (true, 36), (true, 37), (true, 38)]
def eqlO3 : List (Bool × Nat) := [(true, 39), (true, 40), (true, 41), (true, 42), (true, 43), (true, 44), (true, 45), (true, 46), (true, 47), (true, 48), (true, 49), (true, 50), (true, 51)]
def eqlO4 : List (Bool × Nat) := [(true, 52), (true, 53), (true, 54), (true, 55), (true, 56), (true, 57), (true, 58), (true, 59), (true, 60), (false, 61), (true, 62), (true, 63), (true, 64)]
def eqlO5 : List (Bool × Nat) := [(true, 65), (true, 66), (true, 67), (true, 68), (true, 69), (true, 70), (true, 71), (true, 72), (true, 73), (true, 74), (true, 75), (true, 76), (true, 77)]
def eqlO6 : List (Bool × Nat) := [(true, 78), (true, 79), (true, 80), (true, 81), (true, 82), (true, 83), (true, 84), (true, 85), (true, 86), (true, 87), (true, 88), (true, 89), (true, 90)]
def eqlO7 : List (Bool × Nat) := [(true, 91), (true, 92), (true, 93), (true, 94), (true, 95), (true, 96)]
def eqlL0 : Array Bool := #[false, false, false, false, false, false, false, false, false, false, false, false, false, false, false, false, false, false, false, false, false, false, false, false, false, false, false, false, false, false, false, false, false, false, false, false, false, false, false, false, false, false, false, false, false, false, false, false, false, false, false, false, false, false, false, false, false, false, false, false, false, false, false, false, false, false, false, false, false, false, false, false, false, false, false, false, false, false, false, false, false, false, false, false, false, false, false, false, false, false, false, false, false, false, false, false, false]
def eqlL1 : Array Bool := #[true, true, true, true, true, true, true, true, true, true, true, true, true, false, false, false, false, false, false, false, false, false, false, false, false, false, false, false, false, false, false, false, false, false, false, false, false, false, false, false, false, false, false, false, false, false, false, false, false, false, false, false, false, false, false, false, false, false, false, false, false, false, false, false, false, false, false, false, false, false, false, false, false, false, false, false, false, false, false, false, false, false, false, false, false, false, false, false, false, false, false, false, false, false, false, false, false]
def eqlL2 : Array Bool := #[true, true, true, true, true, true, true, true, true, true, true, true, true, true, true, true, true, true, true, true, true, true, true, true, true, true, false, false, false, false, false, false, false, false, false, false, false, false, false, false, false, false, false, false, false, false, false, false, false, false, false, false, false, false, false, false, false, false, false, false, false, false, false, false, false, false, false, false, false, false, false, false, false, false, false, false, false, false, false, false, false, false, false, false, false, false, false, false, false, false, false, false, false, false, false, false, false]
def eqlL3 : Array Bool := #[true, true, true, true, true, true, true, true, true, true, true, true, true, true, true, true, true, true, true, true, true, true, true, true, true, true, true, true, true, true, true, true, true, true, true, true, true, true, true, false, false, false, false, false, false, false, false, false, false, false, false, false, false, false, false, false, false, false, false, false, false, false, false, false, false, false, false, false, false, false, false, false, false, false, false, false, false, false, false, false, false, false, false, false, false, false, false, false, false, false, false, false, false, false, false, false, false]
def eqlL4 : Array Bool := #[true, true, true, true, true, true, true, true, true, true, true, true, true, true, true, true, true, true, true, true, true, true, true, true, true, true, true, true, true, true, true, true, true, true, true, true, true, true, true, true, true, true, true, true, true, true, true, true, true, true, true, true, false, false, false, false, false, false, false, false, false, false, false, false, false, false, false, false, false, false, false, false, false, false, false, false, false, false, false, false, false, false, false, false, false, false, false, false, false, false, false, false, false, false, false, false, false]
def eqlL5 : Array Bool := #[true, true, true, true, true, true, true, true, true, true, true, true, true, true, true, true, true, true, true, true, true, true, true, true, true, true, true, true, true, true, true, true, true, true, true, true, true, true, true, true, true, true, true, true, true, true, true, true, true, true, true, true, true, true, true, true, true, true, true, true, true, true, true, true, true, false, false, false, false, false, false, false, false, false, false, false, false, false, false, false, false, false, false, false, false, false, false, false, false, false, false, false, false, false, false, false, false]
def eqlL6 : Array Bool := #[true, true, true, true, true, true, true, true, true, true, true, true, true, true, true, true, true, true, true, true, true, true, true, true, true, true, true, true, true, true, true, true, true, true, true, true, true, true, true, true, true, true, true, true, true, true, true, true, true, true, true, true, true, true, true, true, true, true, true, true, true, true, true, true, true, true, true, true, true, true, true, true, true, true, true, true, true, true, false, false, false, false, false, false, false, false, false, false, false, false, false, false, false, false, false, false, false]
def eqlL7 : Array Bool := #[true, true, true, true, true, true, true, true, true, true, true, true, true, true, true, true, true, true, true, true, true, true, true, true, true, true, true, true, true, true, true, true, true, true, true, true, true, true, true, true, true, true, true, true, true, true, true, true, true, true, true, true, true, true, true, true, true, true, true, true, true, true, true, true, true, true, true, true, true, true, true, true, true, true, true, true, true, true, true, true, true, true, true, true, true, true, true, true, true, true, true, false, false, false, false, false, false]
def eqlL8 : Array Bool := #[true, true, true, true, true, true, true, true, true, true, true, true, true, true, true, true, true, true, true, true, true, true, true, true, true, true, true, true, true, true, true, true, true, true, true, true, true, true, true, true, true, true, true, true, true, true, true, true, true, true, true, true, true, true, true, true, true, true, true, true, true, true, true, true, true, true, true, true, true, true, true, true, true, true, true, true, true, true, true, true, true, true, true, true, true, true, true, true, true, true, true, true, true, true, true, true, true]
set_option maxRecDepth 100000 in
theorem eql_seq0 : pieceIn Tryz.f10 6 eqlL0 eqlL1 eqlO0 = true := by kernel_rfl
set_option maxRecDepth 100000 in
theorem eql_seq1 : pieceIn Tryz.f10 6 eqlL1 eqlL2 eqlO1 = true := by kernel_rfl
set_option maxRecDepth 100000 in
theorem eql_seq2 : pieceIn Tryz.f10 6 eqlL2 eqlL3 eqlO2 = true := by kernel_rfl
set_option maxRecDepth 100000 in
theorem eql_seq3 : pieceIn Tryz.f10 6 eqlL3 eqlL4 eqlO3 = true := by kernel_rfl
set_option maxRecDepth 100000 in
theorem eql_seq4 : pieceIn Tryz.f10 6 eqlL4 eqlL5 eqlO4 = true := by kernel_rfl
set_option maxRecDepth 100000 in
theorem eql_seq5 : pieceIn Tryz.f10 6 eqlL5 eqlL6 eqlO5 = true := by kernel_rfl
set_option maxRecDepth 100000 in
theorem eql_seq6 : pieceIn Tryz.f10 6 eqlL6 eqlL7 eqlO6 = true := by kernel_rfl
set_option maxRecDepth 100000 in
theorem eql_seq7 : pieceIn Tryz.f10 6 eqlL7 eqlL8 eqlO7 = true := by kernel_rfl
def endIn (f : Func) (n : Nat) (L : Array Bool) (m : Nat) : Bool := match f.body.bind (opsIn · n) with | some ops => (Region.ready .any ops L).isEmpty && ops.size == m | none => false
theorem eql_end : endIn Tryz.f10 6 eqlL8 97 = true := by kernel_rfl
def eqlO : List (Bool × Nat) := [(true, 0), (true, 1), (true, 2), (true, 3), (true, 4), (true, 5), (true, 6), (true, 7), (true, 8), (true, 9), (true, 10), (true, 11), (true, 12), (true, 13), (true, 14), (true, 15), (true, 16), (true, 17), (true, 18), (true, 19), (true, 20), (true, 21), (true, 22), (true, 23), (true, 24), (true, 25), (true, 26), (true, 27), (true, 28), (true, 29), (true, 30), (true, 31), (true, 32), (true, 33), (true, 34), (true, 35), (true, 36), (true, 37), (true, 38), (true, 39), (true, 40), (true, 41), (true, 42), (true, 43), (true, 44), (true, 45), (true, 46), (true, 47), (true, 48), (true, 49), (true, 50), (true, 51), (true, 52), (true, 53), (true, 54), (true, 55), (true, 56), (true, 57), (true, 58), (true, 59), (true, 60), (false, 61), (true, 62), (true, 63), (true, 64), (true, 65), (true, 66), (true, 67), (true, 68), (true, 69), (true, 70), (true, 71), (true, 72), (true, 73), (true, 74), (true, 75), (true, 76), (true, 77), (true, 78), (true, 79), (true, 80), (true, 81), (true, 82), (true, 83), (true, 84), (true, 85), (true, 86), (true, 87), (true, 88), (true, 89), (true, 90), (true, 91), (true, 92), (true, 93), (true, 94), (true, 95), (true, 96)]
theorem eql_all {ops : Array Oper} (h : Tryz.f10.body.bind (opsIn · 6) = some ops) : seqH ops (Array.replicate ops.size false) eqlO = true := by
  have he := eql_end
  unfold endIn at he
  rw [h] at he
  simp only [Bool.and_eq_true, beq_iff_eq] at he
  rw [he.2]
  show seqH ops eqlL0 (eqlO0 ++ (eqlO1 ++ (eqlO2 ++ (eqlO3 ++ (eqlO4 ++ (eqlO5 ++ (eqlO6 ++ (eqlO7 ++ ([]))))))))) = true
  exact seqR_app _ (piece_of h eql_seq0) (seqR_app _ (piece_of h eql_seq1) (seqR_app _ (piece_of h eql_seq2) (seqR_app _ (piece_of h eql_seq3) (seqR_app _ (piece_of h eql_seq4) (seqR_app _ (piece_of h eql_seq5) (seqR_app _ (piece_of h eql_seq6) (seqR_app _ (piece_of h eql_seq7) ( he.1))))))))
end Go.Proofs.YtaacdggjkfmehaaGreatDoor
