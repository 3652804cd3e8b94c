/-
  Chains, plainly: with one more, with one less.
-/
import Derived.Test.YtmamepmfbfinlaaGreatDoorRosK
namespace Go.Proofs.YtmamepmfbfinlaaGreatDoor
open Go.RowKit

theorem has_mem (l : List Int) (x : Int) : hasI l x = true ↔ x ∈ l := by
  unfold hasI
  rw [decide_eq_true_eq]
  rcases ixI_cases l x with ⟨h1, h2⟩ | ⟨k, hk, h1, h2⟩
  · constructor
    · intro h
      omega
    · intro h
      exfalso
      unfold ixN at h2
      rw [List.findIdx?_eq_none_iff] at h2
      have := h2 x h
      simp at this
  · constructor
    · intro _
      unfold ixN at h2
      obtain ⟨h3, h4, _⟩ := List.findIdx?_eq_some_iff_getElem.1 h2
      have : l[k] = x := by simpa using h4
      rw [← this]
      exact List.getElem_mem h3
    · intro _
      omega

theorem has_mem' (l : List Int) (x : Int) : hasI l x = false ↔ x ∉ l := by
  rw [← has_mem]
  cases hasI l x <;> simp

theorem mayNs_iff (l : List Int) : mayNs l = true ↔ (1 ≤ l.length ∧ l.length ≤ 5) ∧ (∀ x ∈ l, 1 ≤ x ∧ x ≤ 5) ∧ l.Pairwise (· ≠ ·) := by
  constructor
  · intro h
    have hl : 1 ≤ l.length ∧ l.length ≤ 5 := by
      unfold mayNs at h
      rw [Bool.and_eq_true] at h
      exact of_decide_eq_true h.1
    refine ⟨hl, fun x hx => ?_, ?_⟩
    · obtain ⟨k, hk, rfl⟩ := List.getElem_of_mem hx
      have := mayNs_at h (List.getElem?_eq_getElem hk)
      exact ⟨this.1, this.2.1⟩
    · rw [List.pairwise_iff_getElem]
      intro i j hi hj hij e
      have := (mayNs_at h (List.getElem?_eq_getElem hj)).2.2.1
      rw [has_mem'] at this
      refine this ?_
      rw [← e]
      exact List.mem_of_getElem? (i := i) (by rw [List.getElem?_take, if_pos hij]; exact List.getElem?_eq_getElem hi)
  · rintro ⟨hl, hm, hp⟩
    refine mayNs_yes hl (fun k hk => ?_)
    rw [goodK_at (List.getElem?_eq_getElem hk), Bool.and_eq_true]
    refine ⟨decide_eq_true (hm _ (List.getElem_mem hk)), ?_⟩
    have : hasI (l.take k) l[k] = false := by
      rw [has_mem']
      intro hx
      obtain ⟨j, hj, e⟩ := List.getElem_of_mem hx
      rw [List.length_take] at hj
      rw [List.getElem_take] at e
      exact (List.pairwise_iff_getElem.1 hp) j k (by omega) hk (by omega) e
    rw [this]
    rfl

theorem one_of (l : List Int) (hp : l.Pairwise (· ≠ ·)) (v : Int) : (l.filter fun x => x == v).length ≤ 1 := by
  induction l with
  | nil => simp
  | cons a r ih =>
    obtain ⟨h1, h2⟩ := List.pairwise_cons.1 hp
    by_cases e : a = v
    · have : r.filter (fun x => x == v) = [] := by
        rw [List.filter_eq_nil_iff]
        intro x hx hv
        exact h1 x hx (by rw [e]; exact (by simpa using hv : x = v).symm)
      rw [List.filter_cons_of_pos (by simpa using e), this]
      simp
    · rw [List.filter_cons_of_neg (by simpa using e)]
      exact ih h2

theorem two_parts (l : List Int) (p : Int → Bool) : l.length = (l.filter p).length + (l.filter fun x => !p x).length := by
  induction l with
  | nil => rfl
  | cons a r ih =>
    cases h : p a with
    | true =>
      rw [List.filter_cons_of_pos h, List.filter_cons_of_neg (by simp [h])]
      simp only [List.length_cons]
      omega
    | false =>
      rw [List.filter_cons_of_neg (by simp [h]), List.filter_cons_of_pos (by simp [h])]
      simp only [List.length_cons]
      omega

theorem pigeon : ∀ (m : Nat) (l : List Int), l.Pairwise (· ≠ ·) → (∀ x ∈ l, 1 ≤ x ∧ x ≤ (m : Int)) → l.length ≤ m
  | 0, l, _, h => by
    cases l with
    | nil => simp
    | cons a r =>
      have := h a (by simp)
      omega
  | m + 1, l, hp, h => by
    have h1 := pigeon m (l.filter fun x => !(x == ((m + 1 : Nat) : Int))) (hp.filter _) (fun x hx => by
      have hx2 := List.mem_filter.1 hx
      have h3 := h x hx2.1
      have h4 : x ≠ ((m + 1 : Nat) : Int) := by simpa using hx2.2
      omega)
    have h2 := one_of l hp ((m + 1 : Nat) : Int)
    have h3 := two_parts l (fun x => x == ((m + 1 : Nat) : Int))
    omega

theorem mayR_of {e : Int} {l : List Int} {nw : Int} (h1 : 1 ≤ e ∧ e ≤ 1099511627776) (h2 : mayNs l = true) (h3 : mayW l nw = true) : mayR ⟨e, l, nw⟩ = true := by
  unfold mayR
  dsimp only
  rw [decide_eq_true h1, h2, h3]
  rfl

theorem tail_snoc (l : List Int) (n : Int) : tailI (l ++ [n]) = n := by
  refine getI_last (k := l.length) (by simp) ?_
  simp

theorem mayNs_snoc {l : List Int} (h : mayNs l = true) {n : Int} (hn : 1 ≤ n ∧ n ≤ 5) (hx : hasI l n = false) : mayNs (l ++ [n]) = true := by
  rw [mayNs_iff] at h ⊢
  obtain ⟨hl, hm, hp⟩ := h
  have hm2 : ∀ x ∈ l ++ [n], 1 ≤ x ∧ x ≤ 5 := by
    intro x hx
    rcases List.mem_append.1 hx with hx | hx
    · exact hm x hx
    · obtain rfl := List.mem_singleton.1 hx
      exact hn
  have hp2 : (l ++ [n]).Pairwise (· ≠ ·) := by
    rw [List.pairwise_append]
    refine ⟨hp, by simp, fun a ha b hb => ?_⟩
    obtain rfl := List.mem_singleton.1 hb
    intro e
    rw [e] at ha
    rw [has_mem'] at hx
    exact hx ha
  exact ⟨⟨by simp, pigeon 5 _ hp2 hm2⟩, hm2, hp2⟩

theorem snoc_mayNs {l : List Int} {n : Int} (h : mayNs (l ++ [n]) = true) : (1 ≤ n ∧ n ≤ 5) ∧ hasI l n = false := by
  rw [mayNs_iff] at h
  obtain ⟨_, hm, hp⟩ := h
  refine ⟨hm n (by simp), ?_⟩
  rw [has_mem']
  intro hx
  rw [List.pairwise_append] at hp
  exact hp.2.2 n hx n (by simp) rfl

/-- With one more. -/
theorem add_yes {e : Int} {l : List Int} {n : Int} (h : mayR ⟨e, l, 0⟩ = true) (he : e < 1099511627776) (hn : 1 ≤ n ∧ n ≤ 5) (hx : hasI l n = false) : addR ⟨e, l, 0⟩ n = (⟨e + 1, l ++ [n], n⟩, true) ∧ mayR ⟨e + 1, l ++ [n], n⟩ = true := by
  have hlen := mayR_len h
  have hns := (mayR_ns h).1
  have hm : mayR ⟨e + 1, l ++ [n], n⟩ = true := mayR_of (by omega) (mayNs_snoc hns hn hx) (by
    unfold mayW
    rw [tail_snoc, decide_eq_true rfl, decide_eq_true (show 1 < (l ++ [n]).length by simp; omega)]
    simp)
  refine ⟨?_, hm⟩
  unfold addR chkR
  rw [h]
  simp [hm]

theorem add_no {e : Int} {l : List Int} {nw n : Int} (h : mayR ⟨e, l, nw⟩ = true) (hz : nw ≠ 0 ∨ ¬ (1 ≤ n ∧ n ≤ 5) ∨ hasI l n = true) : addR ⟨e, l, nw⟩ n = (Ro.zero, false) := by
  unfold addR chkR
  rw [h]
  by_cases h0 : nw = 0
  · subst h0
    have hm : mayR ⟨e + 1, l ++ [n], n⟩ = false := by
      cases hq : mayR ⟨e + 1, l ++ [n], n⟩ with
      | false => rfl
      | true =>
        exfalso
        obtain ⟨h1, h2⟩ := snoc_mayNs (mayR_ns hq).1
        rcases hz with hz | hz | hz
        · exact hz rfl
        · exact hz h1
        · rw [h2] at hz
          cases hz
    simp [hm]
  · simp [h0]

/-- The one that was added goes. -/
theorem drop_last {e : Int} {l : List Int} {n : Int} (h : mayR ⟨e, l, 0⟩ = true) (he : e < 1099511627775) (hn : 1 ≤ n ∧ n ≤ 5) (hx : hasI l n = false) : dropR ⟨e + 1, l ++ [n], n⟩ n = (⟨e + 2, l, 0⟩, true) := by
  have hlen := mayR_len h
  have hm := (add_yes h (by omega) hn hx).2
  have hix : ixN (l ++ [n]) n = some l.length := by
    refine ixN_hit (x := n) (by simp) rfl (fun j y hj hy e => ?_)
    rw [List.getElem?_append_left hj] at hy
    rw [has_mem'] at hx
    exact hx (e ▸ List.mem_of_getElem? hy)
  have hm2 : mayR ⟨e + 2, l, 0⟩ = true := mayR_of (by omega) (mayR_ns h).1 (by unfold mayW; simp)
  unfold dropR
  dsimp only
  rw [hix]
  dsimp only
  rw [hm]
  have e1 : (l ++ [n]).take l.length = l := by simp
  have e2 : (l ++ [n]).drop (l.length + 1) = [] := by simp
  have e3 : e + 1 + 1 = e + 2 := by omega
  rw [e1, e2, List.append_nil, if_pos rfl, if_pos rfl, e3]
  unfold chkR
  rw [hm2]
  rfl

theorem mayNs_del {l : List Int} (h : mayNs l = true) {k : Nat} (hk : k < l.length) (h2 : 2 ≤ l.length) : mayNs (l.take k ++ l.drop (k + 1)) = true := by
  rw [mayNs_iff] at h ⊢
  obtain ⟨hl, hm, hp⟩ := h
  have hs : (l.take k ++ l.drop (k + 1)).Sublist l := by
    conv => rhs; rw [← List.take_append_drop k l]
    refine List.Sublist.append (List.Sublist.refl _) ?_
    rw [List.drop_eq_getElem_cons hk]
    exact List.sublist_cons_self _ _
  refine ⟨by simp; omega, fun x hx => hm x (hs.subset hx), hp.sublist hs⟩

theorem del_len {l : List Int} {k : Nat} (hk : k < l.length) : (l.take k ++ l.drop (k + 1)).length = l.length - 1 := by simp; omega

theorem tail_del {l : List Int} {k : Nat} (hk : k + 1 < l.length) : tailI (l.take k ++ l.drop (k + 1)) = tailI l := by
  obtain ⟨m, hm⟩ : ∃ m, l.length = m + 1 := ⟨l.length - 1, by omega⟩
  obtain ⟨x, hx⟩ : ∃ x, l[m]? = some x := ⟨_, List.getElem?_eq_getElem (by omega)⟩
  rw [getI_last hm hx]
  refine getI_last (k := m - 1) (by rw [del_len (by omega)]; omega) ?_
  rw [List.getElem?_append_right (by simp; omega), List.getElem?_drop]
  rw [← hx]
  congr 1
  simp
  omega

end Go.Proofs.YtmamepmfbfinlaaGreatDoor
