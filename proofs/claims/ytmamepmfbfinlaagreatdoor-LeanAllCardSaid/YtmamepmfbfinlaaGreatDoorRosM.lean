/-
  Chains, plainly: what turns come to.
-/
import Derived.Test.YtmamepmfbfinlaaGreatDoorRosL
namespace Go.Proofs.YtmamepmfbfinlaaGreatDoor
open Go.RowKit

theorem turn_add {r : Ro} {n : Int} (h : mayR r = true) (he : r.ep ≤ 100) (hn : 1 ≤ n ∧ n ≤ 5) : (addR r n).2 = (decide (ixI r.l n < 0) && decide (r.nw = 0)) ∧ ((addR r n).2 = true → (addR r n).1.ep = r.ep + 1 ∧ mayR (addR r n).1 = true) := by
  obtain ⟨e, l, nw⟩ := r
  dsimp only at he ⊢
  have hh : hasI l n = !decide (ixI l n < 0) := by
    unfold hasI
    by_cases h0 : ixI l n < 0
    · rw [decide_eq_true h0, decide_eq_false (by omega)]; rfl
    · rw [decide_eq_false h0, decide_eq_true (by omega)]; rfl
  by_cases hx : hasI l n = true
  · rw [add_no h (.inr (.inr hx))]
    rw [hx] at hh
    have : decide (ixI l n < 0) = false := by
      cases hd : decide (ixI l n < 0) with
      | false => rfl
      | true => rw [hd] at hh; cases hh
    rw [this]
    exact ⟨rfl, fun h => by cases h⟩
  · have hx0 : hasI l n = false := by simpa using hx
    rw [hx0] at hh
    have : decide (ixI l n < 0) = true := by
      cases hd : decide (ixI l n < 0) with
      | true => rfl
      | false => rw [hd] at hh; cases hh
    rw [this]
    by_cases hz : nw = 0
    · subst hz
      obtain ⟨h1, h2⟩ := add_yes h (by omega) hn hx0
      rw [h1]
      exact ⟨by simp, fun _ => ⟨rfl, h2⟩⟩
    · rw [add_no h (.inl hz)]
      rw [decide_eq_false hz]
      exact ⟨rfl, fun h => by cases h⟩

def okD (r : Ro) (n : Int) : Bool := decide (0 ≤ ixI r.l n) && (decide (n = r.nw) || (decide (2 < r.l.length) || (decide (r.l.length = 2) && decide (r.nw = 0))))

theorem mayW_cases {l : List Int} {nw : Int} (h : mayW l nw = true) : nw = 0 ∨ (1 < l.length ∧ nw = tailI l) := by
  unfold mayW at h
  rw [Bool.or_eq_true, Bool.and_eq_true] at h
  rcases h with h | ⟨h1, h2⟩
  · exact .inl (of_decide_eq_true h)
  · exact .inr ⟨of_decide_eq_true h1, of_decide_eq_true h2⟩

theorem turn_drop {r : Ro} {n : Int} (h : mayR r = true) (he : r.ep ≤ 100) (hn : 1 ≤ n ∧ n ≤ 5) : (dropR r n).2 = okD r n ∧ ((dropR r n).2 = true → (dropR r n).1.ep = r.ep + 1 ∧ mayR (dropR r n).1 = true) := by
  obtain ⟨e, l, nw⟩ := r
  dsimp only at he ⊢
  have hlen := mayR_len h
  obtain ⟨hns, hW⟩ := mayR_ns h
  have hWc := mayW_cases hW
  unfold okD dropR
  dsimp only
  rcases ixI_cases l n with ⟨h1, h2⟩ | ⟨k, hk, h1, h2⟩
  · rw [h2, h1]
    exact ⟨rfl, fun h => by cases h⟩
  · rw [h2, h1]
    dsimp only
    rw [h, if_pos rfl, decide_eq_true (show (0 : Int) ≤ (k : Int) by omega), Bool.true_and]
    have hkn : l[k]? = some n := by
      unfold ixN at h2
      obtain ⟨h3, h4, _⟩ := List.findIdx?_eq_some_iff_getElem.1 h2
      rw [List.getElem?_eq_getElem h3]
      have : l[k] = n := by simpa using h4
      rw [this]
    have hdl := del_len hk
    have key : ∀ nw' : Int, (if nw = n then 0 else nw) = nw' → (decide (n = nw) || (decide (2 < l.length) || (decide (l.length = 2) && decide (nw = 0)))) = mayR ⟨e + 1, l.take k ++ l.drop (k + 1), nw'⟩ := by
      intro nw' hnw'
      by_cases h2l : 2 ≤ l.length
      · have hm := mayNs_del hns hk h2l
        by_cases hq : nw = n
        · rw [if_pos hq] at hnw'
          subst hnw'
          rw [decide_eq_true hq.symm, mayR_of (by omega) hm (by unfold mayW; simp)]
          rfl
        · rw [if_neg hq] at hnw'
          subst hnw'
          rw [decide_eq_false (fun e => hq e.symm), Bool.false_or]
          by_cases hz : nw = 0
          · subst hz
            rw [mayR_of (by omega) hm (by unfold mayW; simp)]
            by_cases h3 : 2 < l.length
            · rw [decide_eq_true h3]; rfl
            · rw [decide_eq_true (show l.length = 2 by omega)]; simp
          · rw [decide_eq_false hz, Bool.and_false, Bool.or_false]
            rcases hWc with h0 | ⟨h3, h4⟩
            · exact absurd h0 hz
            · have hkl : k + 1 < l.length := by
                rcases Nat.lt_or_ge (k + 1) l.length with h5 | h5
                · exact h5
                · exfalso
                  have : tailI l = n := getI_last (k := k) (by omega) hkn
                  exact hq (h4.trans this)
              have ht := tail_del hkl
              by_cases h5 : 2 < l.length
              · rw [decide_eq_true h5]
                symm
                refine mayR_of (by omega) hm ?_
                unfold mayW
                rw [ht, ← h4, decide_eq_true rfl, hdl, decide_eq_true (show 1 < l.length - 1 by omega)]
                simp
              · rw [decide_eq_false h5]
                symm
                unfold mayR mayW
                dsimp only
                rw [hdl, decide_eq_false (show ¬ 1 < l.length - 1 by omega), decide_eq_false hz]
                simp
      · have hl1 : l.length = 1 := by omega
        have hz : nw = 0 := by
          rcases hWc with h0 | ⟨h3, _⟩
          · exact h0
          · omega
        rw [decide_eq_false (show ¬ n = nw by omega), decide_eq_false (show ¬ 2 < l.length by omega), decide_eq_false (show ¬ l.length = 2 by omega)]
        symm
        unfold mayR
        dsimp only
        rw [mayNs_len (by rw [hdl]; omega)]
        simp
    obtain ⟨nw', hnw'⟩ : ∃ z, (if nw = n then 0 else nw) = z := ⟨_, rfl⟩
    have hkey := key nw' hnw'
    rw [hnw', hkey]
    unfold chkR
    cases hq : mayR ⟨e + 1, l.take k ++ l.drop (k + 1), nw'⟩ with
    | false => exact ⟨rfl, fun h => by cases h⟩
    | true => exact ⟨rfl, fun _ => ⟨rfl, hq⟩⟩

theorem mayR_learn {r : Ro} (h : mayR r = true) : mayR ⟨r.ep, r.l, 0⟩ = true := by
  obtain ⟨e, l, nw⟩ := r
  have hlen := mayR_len h
  show mayR ⟨e, l, 0⟩ = true
  exact mayR_of (by omega) (mayR_ns h).1 (by unfold mayW; simp)

end Go.Proofs.YtmamepmfbfinlaaGreatDoor
