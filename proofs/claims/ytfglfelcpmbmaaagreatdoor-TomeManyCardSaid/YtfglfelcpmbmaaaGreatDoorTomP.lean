/-
 Contracts of the program, and what they rest on.
-/
import Derived.Test.YtfglfelcpmbmaaaGreatDoorM12
namespace Go.Proofs.YtfglfelcpmbmaaaGreatDoor
open Go.RowKit
def lastW (b : Int) : List Ve → Int
 | [] => b
 | v :: r => lastW v.ver r
theorem lastW_snoc : ∀ (l : List Ve) (b : Int) (x : Ve), lastW b (l ++ [x]) = x.ver
 | [], _, _ => rfl
 | _ :: r, _, x => lastW_snoc r _ x
theorem lastW_last : ∀ (l : List Ve) (b : Int) (y : Ve), l.getLast? = some y → lastW b l = y.ver
 | [], _, _, h => by simp at h
 | [v], _, y, h => by simp at h; subst h; rfl
 | v :: u :: r, b, y, h => by
  have : (u :: r).getLast? = some y := by rw [List.getLast?_cons_cons] at h; exact h
  exact lastW_last (u :: r) v.ver y this
theorem rise_snoc : ∀ (l : List Ve) (b : Int) (x : Ve), riseV b l = true → lastW b l < x.ver → x.ver ≤ 1099511627776 → pureV x = true → riseV b (l ++ [x]) = true
 | [], b, x, _, h1, h2, h3 => by
  show (decide (b < x.ver) && decide (x.ver ≤ 1099511627776) && pureV x && true) = true
  rw [decide_eq_true (show b < x.ver from h1), decide_eq_true h2, h3]
  rfl
 | v :: r, b, x, h0, h1, h2, h3 => by
  have h0' : (decide (b < v.ver) && decide (v.ver ≤ 1099511627776) && pureV v && riseV v.ver r) = true := h0
  simp only [Bool.and_eq_true] at h0'
  show (decide (b < v.ver) && decide (v.ver ≤ 1099511627776) && pureV v && riseV v.ver (r ++ [x])) = true
  rw [h0'.1.1.1, h0'.1.1.2, h0'.1.2, rise_snoc r v.ver x h0'.2 h1 h2 h3]
  rfl
theorem rise_le : ∀ (l : List Ve) (b : Int), riseV b l = true → b ≤ lastW b l ∧ ∀ y ∈ l, y.ver ≤ lastW b l
 | [], _, _ => ⟨Int.le_refl _, fun _ h => by cases h⟩
 | v :: r, b, h0 => by
  have h0' : (decide (b < v.ver) && decide (v.ver ≤ 1099511627776) && pureV v && riseV v.ver r) = true := h0
  simp only [Bool.and_eq_true, decide_eq_true_eq] at h0'
  obtain ⟨h1, h2⟩ := rise_le r v.ver h0'.2
  refine ⟨Int.le_trans (Int.le_of_lt h0'.1.1.1) h1, fun y hy => ?_⟩
  rcases List.mem_cons.1 hy with rfl | hy
  ·exact h1
  ·exact h2 y hy
theorem atE_snoc {l : List Ve} {x : Ve} (h : ∀ y ∈ l, y.ver < x.ver) : atE (l ++ [x]) x.ver = (x, true) := by
 have hp : placeE (l ++ [x]) x.ver = some l.length := by
  refine place_hit (x := x) (by simp) rfl fun j y hj hy => ?_
  rw [List.getElem?_append_left hj] at hy
  have := h y (List.mem_of_getElem? hy)
  omega
 unfold atE
 rw [hp]
 simp [List.getD]
theorem nowE_snoc (l : List Ve) (x : Ve) : nowE (l ++ [x]) = (x, !x.gone) := by
 unfold nowE
 simp
theorem mayAdd_rise {l : List Ve} {n : Int} : mayAdd l n = (decide (l.length < 12) && (decide (l = []) || decide (lastW 0 l < n))) := by
 unfold mayAdd
 cases hl : l.getLast? with
 | none =>
  obtain rfl := List.getLast?_eq_none_iff.1 hl
  rfl
 | some y =>
  have hne : ¬ l = [] := fun e => by rw [e] at hl; simp at hl
  rw [lastW_last l 0 y hl, decide_eq_false hne, Bool.false_or]
end Go.Proofs.YtfglfelcpmbmaaaGreatDoor
