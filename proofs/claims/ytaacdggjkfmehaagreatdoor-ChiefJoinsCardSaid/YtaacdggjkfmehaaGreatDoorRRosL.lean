/-
  Contracts of the program, and what they rest on.
-/
import Derived.Test.YtaacdggjkfmehaaGreatDoorM12
import Derived.Test.YtaacdggjkfmehaaGreatDoorRRosG
namespace Go.Proofs.YtaacdggjkfmehaaGreatDoor
open Go.RowKit
theorem one_of (l : List Int) (hp : l.Pairwise (· ≠ ·)) (v : Int) : (l.filter fun x => x == v).length ≤ 1 := by
  induction l with
  | nil => simp
  | cons a r ih =>
    obtain ⟨h1, h2⟩ := List.pairwise_cons.1 hp
    by_cases e : a = v
    · have : r.filter (fun x => x == v) = [] := by
        rw [List.filter_eq_nil_iff]
        intro x hx hv
        exact h1 x hx (by rw [e]; exact (by simpa using hv : x = v).symm)
      rw [List.filter_cons_of_pos (by simpa using e), this]
      simp
    · rw [List.filter_cons_of_neg (by simpa using e)]
      exact ih h2
theorem two_parts (l : List Int) (p : Int → Bool) : l.length = (l.filter p).length + (l.filter fun x => !p x).length := by
  induction l with
  | nil => rfl
  | cons a r ih =>
    cases h : p a with
    | true =>
      rw [List.filter_cons_of_pos h, List.filter_cons_of_neg (by simp [h])]
      simp only [List.length_cons]
      omega
    | false =>
      rw [List.filter_cons_of_neg (by simp [h]), List.filter_cons_of_pos (by simp [h])]
      simp only [List.length_cons]
      omega
theorem pigeon : ∀ (m : Nat) (l : List Int), l.Pairwise (· ≠ ·) → (∀ x ∈ l, 1 ≤ x ∧ x ≤ (m : Int)) → l.length ≤ m
  | 0, l, _, h => by
    cases l with
    | nil => simp
    | cons a r =>
      have := h a (by simp)
      omega
  | m + 1, l, hp, h => by
    have h1 := pigeon m (l.filter fun x => !(x == ((m + 1 : Nat) : Int))) (hp.filter _) (fun x hx => by
      have hx2 := List.mem_filter.1 hx
      have h3 := h x hx2.1
      have h4 : x ≠ ((m + 1 : Nat) : Int) := by simpa using hx2.2
      omega)
    have h2 := one_of l hp ((m + 1 : Nat) : Int)
    have h3 := two_parts l (fun x => x == ((m + 1 : Nat) : Int))
    omega
theorem tail_snoc (l : List Int) (n : Int) : tailI (l ++ [n]) = n := by
  refine getI_last (k := l.length) (by simp) ?_
  simp
theorem mayNs_snoc {l : List Int} (h : mayNs l = true) {n : Int} (hn : 1 ≤ n ∧ n ≤ 5) (hx : hasI l n = false) : mayNs (l ++ [n]) = true := by
  rw [mayNs_iff] at h ⊢
  obtain ⟨hl, hm, hp⟩ := h
  have hm2 : ∀ x ∈ l ++ [n], 1 ≤ x ∧ x ≤ 5 := by
    intro x hx
    rcases List.mem_append.1 hx with hx | hx
    · exact hm x hx
    · obtain rfl := List.mem_singleton.1 hx
      exact hn
  have hp2 : (l ++ [n]).Pairwise (· ≠ ·) := by
    rw [List.pairwise_append]
    refine ⟨hp, by simp, fun a ha b hb => ?_⟩
    obtain rfl := List.mem_singleton.1 hb
    intro e
    rw [e] at ha
    rw [has_mem'] at hx
    exact hx ha
  exact ⟨⟨by simp, pigeon 5 _ hp2 hm2⟩, hm2, hp2⟩
theorem add_yes {e : Int} {l : List Int} {n : Int} (h : mayR ⟨e, l, 0⟩ = true) (he : e < 1099511627776) (hn : 1 ≤ n ∧ n ≤ 5) (hx : hasI l n = false) : addR ⟨e, l, 0⟩ n = (⟨e + 1, l ++ [n], n⟩, true) ∧ mayR ⟨e + 1, l ++ [n], n⟩ = true := by
  have hlen := mayR_len h
  have hns := (mayR_ns h).1
  have hm : mayR ⟨e + 1, l ++ [n], n⟩ = true := mayR_of (by omega) (mayNs_snoc hns hn hx) (by
    unfold mayW
    rw [tail_snoc, decide_eq_true rfl, decide_eq_true (show 1 < (l ++ [n]).length by simp; omega)]
    simp)
  refine ⟨?_, hm⟩
  unfold addR chkR
  rw [h]
  simp [hm]
end Go.Proofs.YtaacdggjkfmehaaGreatDoor
