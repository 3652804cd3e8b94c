/-
 Contracts of the program, and what they rest on.
-/
import Derived.Test.YtlpgphiccjkenaaGreatDoorBkBq
namespace Go.Proofs.YtlpgphiccjkenaaGreatDoor
open Go.RowKit
def fkey (j : Nat) : ByteArray := ⟨(107 :: Lib.itoa (j : Int)).toArray⟩
theorem fkey_eq (j : Nat) : (⟨#[107]⟩ : ByteArray) ++ decS (j : Int) = fkey j := by
 apply ByteArray.ext
 apply Array.toList_inj.1
 simp [decS, fkey, ByteArray.data_append]
def ford : List Nat := [0, 1, 10, 11, 12, 13, 14, 15, 16, 17, 18, 19, 2, 20, 21, 22, 23, 24, 25, 26, 27, 28, 29, 3, 30, 31, 32, 33, 34, 35, 36, 37, 38, 39, 4, 5, 6, 7, 8, 9]
def fvs (k v : Nat) : List Ve := if k = 0 then (List.range (min v 12)).map fun j => ⟨((j + 1 : Nat) : Int), false, ⟨#[120]⟩⟩ else ⟨1, false, ⟨#[]⟩⟩ :: (List.range (min v 11)).map fun j => ⟨((k + j + 1 : Nat) : Int), false, ⟨#[120]⟩⟩
def fok (k v : Nat) : Bool := if k = 0 then decide (v < 12) else decide (v < 11)
def bfV (k v : Nat) : Bk :=
 ⟨((k + v : Nat) : Int),
   if k = 0 then (if v = 0 then [] else [⟨fkey 0, fvs 0 v⟩]) else ⟨fkey 0, fvs k v⟩ :: ((ford.drop 1).filter fun j => decide (j < k)).map fun j => ⟨fkey j, [⟨((j + 1 : Nat) : Int), false, ⟨#[]⟩⟩]⟩,
   if k + v = 0 then [] else [⟨4294967296 + ((k + v : Nat) : Int), if v = 0 then (if k ≤ 40 then ⟨0, (k : Int)⟩ else ⟨5, 0⟩) else if fok k (v - 1) then ⟨0, ((k + v : Nat) : Int)⟩ else ⟨5, 0⟩⟩],
   if k + v = 0 then 0 else 4294967296 + ((k + v : Nat) : Int), 0, 0, 0, 0⟩
def dfk (i : Nat) : De := ⟨1, fkey i, ⟨#[]⟩, 0, 0, ⟨#[]⟩, 4294967296 + ((i + 1 : Nat) : Int), 4294967296 + ((i + 1 : Nat) : Int)⟩
def dfv (k v : Nat) : De := ⟨1, fkey 0, ⟨#[120]⟩, 0, 0, ⟨#[]⟩, 4294967296 + ((k + v + 1 : Nat) : Int), 4294967296 + ((k + v + 1 : Nat) : Int)⟩
def chkK (i : Nat) : Bool := beqB (doB (bfV i 0) (dfk i) true).1 (bfV (i + 1) 0) && ((doB (bfV i 0) (dfk i) true).2.err == if i < 40 then 0 else 5) && keyB (fkey i) && wfB (bfV i 0) && shB (bfV (i + 1) 0)
def chkV (k v : Nat) : Bool := beqB (doB (bfV k v) (dfv k v) true).1 (bfV k (v + 1)) && ((doB (bfV k v) (dfv k v) true).2.err == if fok k v then 0 else 5) && wfB (bfV k v) && shB (bfV k (v + 1))
theorem chkK_all : (List.range 42).all chkK = true := by kernel_rfl
theorem chkV_all : ((List.range 43).all fun k => (List.range 14).all (chkV k)) = true := by kernel_rfl
def chkF (k v : Nat) : Bool := bmay (bfV k v) && wfB (bfV k v) && decide ((bfV k v).ms.length ≤ 1) && ((bfV k v).l.length == min k 40 + if k = 0 ∧ 0 < v then 1 else 0)
theorem chkF_all : ((List.range 43).all fun k => (List.range 15).all (chkF k)) = true := by kernel_rfl
theorem homeP_base (n : Nat) (h1 : 1 ≤ n) (h2 : n ≤ 1000000) : homeP (4294967296 + (n : Int)) = 1 := by
 have e1 : (4294967296 + (n : Int)).tdiv 4294967296 = 1 := by
  rw [Int.tdiv_eq_ediv_of_nonneg (by omega)]
  omega
 have e2 : (4294967296 + (n : Int)).tmod 4294967296 ≠ 0 := by
  rw [Int.tmod_eq_emod_of_nonneg (by omega)]
  omega
 unfold homeP
 rw [e1, if_pos ⟨by decide, by decide, e2⟩]
theorem bfK_step (i : Nat) (h : i < 42) : (∃ r, doB (bfV i 0) (dfk i) true = (bfV (i + 1) 0, ⟨if i < 40 then 0 else 5, r⟩)) ∧ mayD (dfk i) ∧ (dfk i).wf ∧ (bfV i 0).wf ∧ ((bfV (i + 1) 0).l.length ≤ 1000000 ∧ (bfV (i + 1) 0).ms.length ≤ 1000000 ∧ ∀ e ∈ (bfV (i + 1) 0).l, e.vs.length ≤ 1000000) := by
 have hc := List.all_eq_true.1 chkK_all i (List.mem_range.2 h)
 unfold chkK at hc
 simp only [Bool.and_eq_true, beq_iff_eq] at hc
 obtain ⟨⟨⟨⟨h1, h2⟩, h3⟩, h4⟩, h5⟩ := hc
 refine ⟨⟨(doB (bfV i 0) (dfk i) true).2.ver, ?_⟩, ⟨h3, ?_, ?_, ?_, .inl ⟨rfl, (by decide : (⟨#[]⟩ : ByteArray).size ≤ 300), rfl, .inl ⟨.inl rfl, rfl⟩⟩⟩, ?_, wfB_of h4, shB_of h5⟩
 ·have e := beqB_eq h1
  generalize doB (bfV i 0) (dfk i) true = R at *
  obtain ⟨a, b, c⟩ := R
  dsimp only at e h2 ⊢
  rw [e, h2]
 ·show homeP (4294967296 + ((i + 1 : Nat) : Int)) ≠ 0
  rw [homeP_base (i + 1) (by omega) (by omega)]
  decide
 ·show (0 : Int) ≤ 4294967296 + ((i + 1 : Nat) : Int)
  omega
 ·exact Int.le_refl _
 ·unfold De.wf dfk
  dsimp only
  omega
theorem bfV_step (k v : Nat) (hk : k ≤ 42) (h : v < 14) : (∃ r, doB (bfV k v) (dfv k v) true = (bfV k (v + 1), ⟨if fok k v = true then 0 else 5, r⟩)) ∧ mayD (dfv k v) ∧ (dfv k v).wf ∧ (bfV k v).wf ∧ ((bfV k (v + 1)).l.length ≤ 1000000 ∧ (bfV k (v + 1)).ms.length ≤ 1000000 ∧ ∀ e ∈ (bfV k (v + 1)).l, e.vs.length ≤ 1000000) := by
 have hc := List.all_eq_true.1 (List.all_eq_true.1 chkV_all k (List.mem_range.2 (by omega))) v (List.mem_range.2 h)
 unfold chkV at hc
 simp only [Bool.and_eq_true, beq_iff_eq] at hc
 obtain ⟨⟨⟨h1, h2⟩, h4⟩, h5⟩ := hc
 refine ⟨⟨(doB (bfV k v) (dfv k v) true).2.ver, ?_⟩, ⟨(by kernel_rfl : keyB (fkey 0) = true), ?_, ?_, ?_, .inl ⟨rfl, (by decide : (⟨#[120]⟩ : ByteArray).size ≤ 300), rfl, .inl ⟨.inl rfl, rfl⟩⟩⟩, ?_, wfB_of h4, shB_of h5⟩
 ·have e := beqB_eq h1
  generalize doB (bfV k v) (dfv k v) true = R at *
  obtain ⟨a, b, c⟩ := R
  dsimp only at e h2 ⊢
  rw [e, h2]
 ·show homeP (4294967296 + ((k + v + 1 : Nat) : Int)) ≠ 0
  rw [homeP_base (k + v + 1) (by omega) (by omega)]
  decide
 ·show (0 : Int) ≤ 4294967296 + ((k + v + 1 : Nat) : Int)
  omega
 ·exact Int.le_refl _
 ·unfold De.wf dfv
  dsimp only
  omega
theorem bfV_fin (k v : Nat) (hk : k ≤ 42) (hv : v ≤ 14) : bmay (bfV k v) = true ∧ (bfV k v).wf ∧ (bfV k v).ms.length ≤ 1 ∧ (bfV k v).l.length = min k 40 + if k = 0 ∧ 0 < v then 1 else 0 := by
 have hc := List.all_eq_true.1 (List.all_eq_true.1 chkF_all k (List.mem_range.2 (by omega))) v (List.mem_range.2 (by omega))
 unfold chkF at hc
 simp only [Bool.and_eq_true, beq_iff_eq, decide_eq_true_eq] at hc
 obtain ⟨⟨⟨h1, h2⟩, h3⟩, h4⟩ := hc
 exact ⟨h1, wfB_of h2, h3, h4⟩
theorem bfV_zero : bfV 0 0 = Bk.zero := by kernel_rfl
end Go.Proofs.YtlpgphiccjkenaaGreatDoor
