/-
  What puts, a delete and a put again come to in a book of one key.
-/
import Derived.Test.YtoealjcjpjapkaaGreatDoorLbcP
namespace Go.Proofs.YtoealjcjpjapkaaGreatDoor
open Go.RowKit

/-- The digit j. -/
def dl (j : Nat) : ByteArray := ⟨#[UInt8.ofNat (48 + j)]⟩

theorem dl_dec (j : Nat) (h : j ≤ 6) : decS (j : Int) = dl j := by
  obtain rfl | rfl | rfl | rfl | rfl | rfl | rfl : j = 0 ∨ j = 1 ∨ j = 2 ∨ j = 3 ∨ j = 4 ∨ j = 5 ∨ j = 6 := by omega
  all_goals kernel_rfl

def dvs (n : Nat) : List Ve := (List.range n).map fun j => ⟨((j + 1 : Nat) : Int), false, dl (j + 1)⟩
def dms (n : Nat) : List Me := (List.range n).map fun j => ⟨4294967296 + ((j + 1 : Nat) : Int), ⟨0, ((j + 1 : Nat) : Int)⟩⟩
/-- The book behind n puts. -/
def ds (n : Nat) : Bk := ⟨n, if n = 0 then [] else [⟨⟨#[107]⟩, dvs n⟩], dms n, 0, 0, 0, 0, 0⟩
def ddp (n : Nat) : De := ⟨1, ⟨#[107]⟩, dl n, 0, 0, ⟨#[]⟩, 4294967296 + (n : Int), 0⟩
def ddd : De := ⟨2, ⟨#[107]⟩, ⟨#[]⟩, 0, 0, ⟨#[]⟩, 4294967346, 0⟩
def ddz (B : ByteArray) : De := ⟨1, ⟨#[107]⟩, B, 0, 0, ⟨#[]⟩, 4294967356, 0⟩
/-- Its entry, the book behind the delete. -/
def dge (n : Nat) : En := ⟨⟨#[107]⟩, dvs n ++ [⟨((n + 1 : Nat) : Int), true, ⟨#[]⟩⟩]⟩
def dgB (n : Nat) : Bk := ⟨((n + 1 : Nat) : Int), [dge n], dms n ++ [⟨4294967346, ⟨0, ((n + 1 : Nat) : Int)⟩⟩], 0, 0, 0, 0, 0⟩
/-- The book behind the last put. -/
def df (n : Nat) (B : ByteArray) : Bk := ⟨((n + 2 : Nat) : Int), [⟨⟨#[107]⟩, dvs n ++ [⟨((n + 1 : Nat) : Int), true, ⟨#[]⟩⟩, ⟨((n + 2 : Nat) : Int), false, B⟩]⟩], dms n ++ [⟨4294967346, ⟨0, ((n + 1 : Nat) : Int)⟩⟩, ⟨4294967356, ⟨0, ((n + 2 : Nat) : Int)⟩⟩], 0, 0, 0, 0, 0⟩

theorem ds_zero : ds 0 = Bk.zero := by kernel_rfl

theorem ddp_may (n : Nat) (h : 1 ≤ n) (h6 : n ≤ 6) : mayD (ddp n) := by
  obtain rfl | rfl | rfl | rfl | rfl | rfl : n = 1 ∨ n = 2 ∨ n = 3 ∨ n = 4 ∨ n = 5 ∨ n = 6 := by omega
  all_goals exact ⟨by decide +kernel, by decide +kernel, by decide, by decide, .inl ⟨rfl, by decide, rfl, .inl ⟨.inl rfl, rfl⟩⟩⟩
theorem ddd_may : mayD ddd := ⟨by decide +kernel, by decide +kernel, by decide, by decide, .inr (.inl ⟨rfl, rfl, rfl, rfl, rfl⟩)⟩
theorem ddz_may {B : ByteArray} (h : B.size ≤ 300) : mayD (ddz B) := ⟨(by decide +kernel : keyB ⟨#[107]⟩ = true), (by decide +kernel : homeP 4294967356 ≠ 0), (by decide : (0 : Int) ≤ 0), (by decide : (0 : Int) ≤ 4294967356), .inl ⟨rfl, h, rfl, .inl ⟨.inl rfl, rfl⟩⟩⟩
theorem ddp_wf (n : Nat) (h6 : n ≤ 6) : (ddp n).wf := by
  unfold De.wf ddp
  dsimp only
  omega
theorem ddd_wf : ddd.wf := by unfold De.wf ddd; decide
theorem ddz_wf (B : ByteArray) : (ddz B).wf := by unfold De.wf ddz; dsimp only; decide

theorem ds_do (n : Nat) (h : n < 6) : doB (ds n) (ddp (n + 1)) true = (ds (n + 1), ⟨0, ((n + 1 : Nat) : Int)⟩) := by
  obtain rfl | rfl | rfl | rfl | rfl | rfl : n = 0 ∨ n = 1 ∨ n = 2 ∨ n = 3 ∨ n = 4 ∨ n = 5 := by omega
  all_goals kernel_rfl
theorem dg_do (n : Nat) (h : 1 ≤ n) (h6 : n ≤ 6) : doB (ds n) ddd true = (dgB n, ⟨0, ((n + 1 : Nat) : Int)⟩) := by
  obtain rfl | rfl | rfl | rfl | rfl | rfl : n = 1 ∨ n = 2 ∨ n = 3 ∨ n = 4 ∨ n = 5 ∨ n = 6 := by omega
  all_goals kernel_rfl
theorem df_do (n : Nat) (B : ByteArray) (h : 1 ≤ n) (h6 : n ≤ 6) : doB (dgB n) (ddz B) true = (df n B, ⟨0, ((n + 2 : Nat) : Int)⟩) := by
  obtain rfl | rfl | rfl | rfl | rfl | rfl : n = 1 ∨ n = 2 ∨ n = 3 ∨ n = 4 ∨ n = 5 ∨ n = 6 := by omega
  all_goals kernel_rfl
theorem dg_get0 (n : Nat) (h : 1 ≤ n) (h6 : n ≤ 6) : getB (dgB n).l ⟨#[107]⟩ 0 = (Ve.zero, 10) := by
  obtain rfl | rfl | rfl | rfl | rfl | rfl : n = 1 ∨ n = 2 ∨ n = 3 ∨ n = 4 ∨ n = 5 ∨ n = 6 := by omega
  all_goals kernel_rfl
theorem dg_getn (n : Nat) (h : 1 ≤ n) (h6 : n ≤ 6) : getB (dgB n).l ⟨#[107]⟩ ((n : Int) + 1) = (Ve.zero, 10) := by
  obtain rfl | rfl | rfl | rfl | rfl | rfl : n = 1 ∨ n = 2 ∨ n = 3 ∨ n = 4 ∨ n = 5 ∨ n = 6 := by omega
  all_goals kernel_rfl
theorem dg_geti (n i : Nat) (hn : 1 ≤ n) (h6 : n ≤ 6) (h : 1 ≤ i) (hi : i ≤ n) : getB (dgB n).l ⟨#[107]⟩ (i : Int) = (⟨(i : Int), false, dl i⟩, 0) := by
  obtain rfl | rfl | rfl | rfl | rfl | rfl : n = 1 ∨ n = 2 ∨ n = 3 ∨ n = 4 ∨ n = 5 ∨ n = 6 := by omega
  all_goals obtain rfl | rfl | rfl | rfl | rfl | rfl : i = 1 ∨ i = 2 ∨ i = 3 ∨ i = 4 ∨ i = 5 ∨ i = 6 := by omega
  all_goals first | (exfalso; omega) | kernel_rfl
theorem df_get (n : Nat) (B : ByteArray) (h : 1 ≤ n) (h6 : n ≤ 6) : getB (df n B).l ⟨#[107]⟩ 0 = (⟨((n + 2 : Nat) : Int), false, B⟩, 0) := by
  obtain rfl | rfl | rfl | rfl | rfl | rfl : n = 1 ∨ n = 2 ∨ n = 3 ∨ n = 4 ∨ n = 5 ∨ n = 6 := by omega
  all_goals kernel_rfl
theorem dge_now (n : Nat) (h : 1 ≤ n) (h6 : n ≤ 6) : (nowE (dge n).vs).2 = false := by
  obtain rfl | rfl | rfl | rfl | rfl | rfl : n = 1 ∨ n = 2 ∨ n = 3 ∨ n = 4 ∨ n = 5 ∨ n = 6 := by omega
  all_goals kernel_rfl
theorem dge_len (n : Nat) : (dge n).vs.length = n + 1 := by unfold dge dvs; simp
theorem dms_len (n : Nat) : (dms n).length = n := by unfold dms; simp
theorem ds_len (n : Nat) : (ds n).l.length ≤ 1 := by unfold ds; dsimp only; split <;> simp

theorem ds_short (n : Nat) (h6 : n ≤ 6) : (ds n).l.length ≤ 1000000 ∧ (ds n).ms.length ≤ 1000000 ∧ ∀ e ∈ (ds n).l, e.vs.length ≤ 1000000 := by
  refine ⟨by have := ds_len n; omega, by show (dms n).length ≤ _; rw [dms_len]; omega, ?_⟩
  intro e he
  unfold ds at he
  dsimp only at he
  split at he
  · cases he
  · simp at he
    subst he
    unfold dvs
    simp
    omega
theorem dg_short (n : Nat) (h6 : n ≤ 6) : (dgB n).l.length ≤ 1000000 ∧ (dgB n).ms.length ≤ 1000000 ∧ ∀ e ∈ (dgB n).l, e.vs.length ≤ 1000000 := by
  refine ⟨by unfold dgB; simp, by unfold dgB; simp [dms_len]; omega, ?_⟩
  intro e he
  unfold dgB at he
  simp at he
  rw [he, dge_len]
  omega
theorem df_short (n : Nat) (B : ByteArray) (h6 : n ≤ 6) : (df n B).l.length ≤ 1000000 ∧ (df n B).ms.length ≤ 1000000 ∧ ∀ e ∈ (df n B).l, e.vs.length ≤ 1000000 := by
  refine ⟨by unfold df; simp, by unfold df; simp [dms_len]; omega, ?_⟩
  intro e he
  unfold df at he
  simp at he
  rw [he]
  simp [dvs]
  omega

theorem ds_wf (n : Nat) (h6 : n ≤ 6) : (ds n).wf := by
  obtain rfl | rfl | rfl | rfl | rfl | rfl | rfl : n = 0 ∨ n = 1 ∨ n = 2 ∨ n = 3 ∨ n = 4 ∨ n = 5 ∨ n = 6 := by omega
  all_goals exact c_wf4 ⟨by unfold isI; decide +kernel, by unfold isI; decide +kernel, by unfold isI; decide +kernel, by unfold isI; decide +kernel⟩
theorem dg_wf (n : Nat) (h6 : n ≤ 6) : (dgB n).wf := by
  obtain rfl | rfl | rfl | rfl | rfl | rfl | rfl : n = 0 ∨ n = 1 ∨ n = 2 ∨ n = 3 ∨ n = 4 ∨ n = 5 ∨ n = 6 := by omega
  all_goals exact c_wf4 ⟨by unfold isI; decide +kernel, by unfold isI; decide +kernel, by unfold isI; decide +kernel, by unfold isI; decide +kernel⟩

end Go.Proofs.YtoealjcjpjapkaaGreatDoor
