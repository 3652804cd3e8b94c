/-
 Contracts of the program, and what they rest on.
-/
import Derived.Test.YtlpgphiccjkenaaGreatDoorBkBq
import Derived.Test.YtlpgphiccjkenaaGreatDoorLbfP
namespace Go.Proofs.YtlpgphiccjkenaaGreatDoor
open Go.RowKit
def blS (n : Nat) : Bk :=
 ⟨(n : Int), ((List.range 7).filter fun c => decide (c = 0 ∧ 7 ≤ n ∨ 1 ≤ c ∧ c ≤ n)).map fun c => ⟨fkey c, ((List.range n).filter fun j => (j + 1) % 7 == c).map fun j => ⟨((j + 1 : Nat) : Int), false, ⟨#[118]⟩⟩⟩,
   (List.range n).map fun j => ⟨4294967296 + ((j + 1 : Nat) : Int), ⟨0, ((j + 1 : Nat) : Int)⟩⟩, 0, 0, 0, 0, 0⟩
def dls (i : Nat) : De := ⟨1, fkey ((i + 1) % 7), ⟨#[118]⟩, 0, 0, ⟨#[]⟩, 4294967296 + ((i + 1 : Nat) : Int), 0⟩
def blK (n low : Nat) : Nat := max 1 (min low (n + 1))
def blL (n low : Nat) : Int := if low = 0 then 0 else 4294967296 + ((min low (n + 1) : Nat) : Int)
def dlz (n low : Nat) : De := ⟨1, ⟨#[122]⟩, ⟨#[118]⟩, 0, 0, ⟨#[]⟩, 4294967296 + ((n + 1 : Nat) : Int), blL n low⟩
def blE (n low : Nat) : Bk :=
 ⟨((n + 1 : Nat) : Int), (blS n).l ++ [⟨⟨#[122]⟩, [⟨((n + 1 : Nat) : Int), false, ⟨#[118]⟩⟩]⟩], ((List.range (n + 1)).filter fun j => decide (blK n low ≤ j + 1)).map fun j => ⟨4294967296 + ((j + 1 : Nat) : Int), ⟨0, ((j + 1 : Nat) : Int)⟩⟩, blL n low, 0, 0, 0, 0⟩
def dla (i : Nat) : De := ⟨1, ⟨#[107, 49]⟩, ⟨#[97, 103, 97, 105, 110]⟩, 0, 0, ⟨#[]⟩, 4294967296 + (i : Int), 0⟩
def chkS (i : Nat) : Bool := beqB (doB (blS i) (dls i) true).1 (blS (i + 1)) && wfB (blS i) && shB (blS (i + 1)) && keyB (fkey ((i + 1) % 7))
theorem chkS_all : (List.range 20).all chkS = true := by kernel_rfl
def chkE (n low : Nat) : Bool := beqB (doB (blS n) (dlz n low) true).1 (blE n low) && bmay (blE n low) && wfB (blS n) && wfB (blE n low) && shB (blE n low) && ((blE n low).ms.length == n + 2 - blK n low) && (List.range (n + 1)).all fun i => ((toldB (blE n low).ms (4294967296 + (i : Int))).isSome == decide (blK n low ≤ i)) && match toldB (blE n low).ms (4294967296 + (i : Int)) with | none => true | some r => r.err == 0
theorem chkE_all : ((List.range 21).all fun n => (n == 0) || (List.range 25).all (chkE n)) = true := by kernel_rfl
theorem blS_zero : blS 0 = Bk.zero := by kernel_rfl
theorem blS_step (i : Nat) (h : i < 20) : (∃ r, doB (blS i) (dls i) true = (blS (i + 1), r)) ∧ mayD (dls i) ∧ (dls i).wf ∧ (blS i).wf ∧ ((blS (i + 1)).l.length ≤ 1000000 ∧ (blS (i + 1)).ms.length ≤ 1000000 ∧ ∀ e ∈ (blS (i + 1)).l, e.vs.length ≤ 1000000) := by
 have hc := List.all_eq_true.1 chkS_all i (List.mem_range.2 h)
 unfold chkS at hc
 simp only [Bool.and_eq_true] at hc
 obtain ⟨⟨⟨h1, h2⟩, h3⟩, h4⟩ := hc
 refine ⟨⟨(doB (blS i) (dls i) true).2, ?_⟩, ⟨h4, ?_, Int.le_refl _, ?_, .inl ⟨rfl, (by decide : (⟨#[118]⟩ : ByteArray).size ≤ 300), rfl, .inl ⟨.inl rfl, rfl⟩⟩⟩, ?_, wfB_of h2, shB_of h3⟩
 ·have e := beqB_eq h1
  generalize doB (blS i) (dls i) true = R at *
  obtain ⟨a, b⟩ := R
  dsimp only at e ⊢
  rw [e]
 ·show homeP (4294967296 + ((i + 1 : Nat) : Int)) ≠ 0
  rw [homeP_base (i + 1) (by omega) (by omega)]
  decide
 ·show (0 : Int) ≤ 4294967296 + ((i + 1 : Nat) : Int)
  omega
 ·unfold De.wf dls
  dsimp only
  omega
theorem blL_le (n low : Nat) : 0 ≤ blL n low ∧ blL n low ≤ 4294967296 + ((n + 1 : Nat) : Int) := by
 unfold blL
 split <;> omega
theorem blE_facts {n low : Nat} (h1 : 1 ≤ n) (h20 : n ≤ 20) (hl : low < 25) : chkE n low = true := by
 have hc := List.all_eq_true.1 chkE_all n (List.mem_range.2 (by omega))
 have hn : (n == 0) = false := by rw [beq_eq_false_iff_ne]; omega
 rw [hn, Bool.false_or] at hc
 exact List.all_eq_true.1 hc low (List.mem_range.2 hl)
theorem blE_step (n low : Nat) (h1 : 1 ≤ n) (h20 : n ≤ 20) (hl : low < 25) : (∃ r, doB (blS n) (dlz n low) true = (blE n low, r)) ∧ mayD (dlz n low) ∧ (dlz n low).wf ∧ (blS n).wf ∧ (blE n low).wf ∧ bmay (blE n low) = true ∧ (blE n low).ms.length = n + 2 - blK n low ∧ ((blE n low).l.length ≤ 1000000 ∧ (blE n low).ms.length ≤ 1000000 ∧ ∀ e ∈ (blE n low).l, e.vs.length ≤ 1000000) := by
 have hc := blE_facts h1 h20 hl
 unfold chkE at hc
 simp only [Bool.and_eq_true, beq_iff_eq] at hc
 obtain ⟨⟨⟨⟨⟨⟨c1, c2⟩, c3⟩, c4⟩, c5⟩, c6⟩, _⟩ := hc
 obtain ⟨b1, b2⟩ := blL_le n low
 refine ⟨⟨(doB (blS n) (dlz n low) true).2, ?_⟩, ⟨(by kernel_rfl : keyB ⟨#[122]⟩ = true), ?_, b1, b2, .inl ⟨rfl, (by decide : (⟨#[118]⟩ : ByteArray).size ≤ 300), rfl, .inl ⟨.inl rfl, rfl⟩⟩⟩, ?_, wfB_of c3, wfB_of c4, c2, c6, shB_of c5⟩
 ·have e := beqB_eq c1
  generalize doB (blS n) (dlz n low) true = R at *
  obtain ⟨a, b⟩ := R
  dsimp only at e ⊢
  rw [e]
 ·show homeP (4294967296 + ((n + 1 : Nat) : Int)) ≠ 0
  rw [homeP_base (n + 1) (by omega) (by omega)]
  decide
 ·unfold De.wf dlz
  dsimp only
  omega
theorem bl_told (n low i : Nat) (h1 : 1 ≤ n) (h20 : n ≤ 20) (hl : low < 25) (hi : i ≤ n) : (toldB (blE n low).ms (4294967296 + (i : Int))).isSome = decide (blK n low ≤ i) ∧ ∀ r, toldB (blE n low).ms (4294967296 + (i : Int)) = some r → r.err = 0 := by
 have hc := blE_facts h1 h20 hl
 unfold chkE at hc
 simp only [Bool.and_eq_true] at hc
 have hx := List.all_eq_true.1 hc.2 i (List.mem_range.2 (by omega))
 simp only [Bool.and_eq_true, beq_iff_eq] at hx
 refine ⟨hx.1, fun r hr => ?_⟩
 have h2 := hx.2
 rw [hr] at h2
 simpa using h2
theorem dla_may (i : Nat) (h1 : 1 ≤ i) (h2 : i ≤ 20) : mayD (dla i) ∧ (dla i).wf := by
 refine ⟨⟨(by kernel_rfl : keyB ⟨#[107, 49]⟩ = true), ?_, Int.le_refl _, ?_, .inl ⟨rfl, (by decide : (⟨#[97, 103, 97, 105, 110]⟩ : ByteArray).size ≤ 300), rfl, .inl ⟨.inl rfl, rfl⟩⟩⟩, ?_⟩
 ·show homeP (4294967296 + (i : Int)) ≠ 0
  rw [homeP_base i h1 (by omega)]
  decide
 ·show (0 : Int) ≤ 4294967296 + (i : Int)
  omega
 ·unfold De.wf dla
  dsimp only
  omega
theorem bl_again (n low i : Nat) (h1 : 1 ≤ n) (h20 : n ≤ 20) (hl : low < 25) (hi1 : 1 ≤ i) (hi : i ≤ n) : ((doB (blE n low) (dla i) true).2.err = 12) ↔ i < blK n low := by
 obtain ⟨_, _, _, _, _, hm, _, _⟩ := blE_step n low h1 h20 hl
 obtain ⟨ht1, ht2⟩ := bl_told n low i h1 h20 hl hi
 have hh : homeP (dla i).req = 1 := homeP_base i hi1 (by omega)
 have hq : ¬ (blE n low).seq = 1099511627776 := by show ¬ ((n + 1 : Nat) : Int) = _; omega
 have hlo : (blE n low).low 1 = blL n low := rfl
 unfold doB
 rw [hm, if_neg (by simp), if_neg hq, hh, hlo]
 by_cases hk : i < blK n low
 ·have : (dla i).req < blL n low := by
   show 4294967296 + (i : Int) < blL n low
   unfold blK at hk
   unfold blL
   split <;> omega
  rw [if_pos this]
  simp [hk]
 ·have : ¬ (dla i).req < blL n low := by
   show ¬ 4294967296 + (i : Int) < blL n low
   unfold blK at hk
   unfold blL
   split <;> omega
  rw [if_neg this]
  have hs : (toldB (blE n low).ms (4294967296 + (i : Int))).isSome = true := by rw [ht1]; simp; omega
  obtain ⟨r, hr⟩ := Option.isSome_iff_exists.1 hs
  have hr' : toldB (blE n low).ms (dla i).req = some r := hr
  rw [hr']
  simp [hk, ht2 r hr]
end Go.Proofs.YtlpgphiccjkenaaGreatDoor
