/-
  Which replica is asked, plainly: weights, who may be picked, who is, how many keys each has.
-/
import Derived.Test.YtmamepmfbfinlaaGreatDoorRosL
import Derived.Test.YtmamepmfbfinlaaGreatDoorMath
namespace Go.Proofs.YtmamepmfbfinlaaGreatDoor
open Go.RowKit Go.Proofs.Cpl

/-- The weight of a node for a key of the mark z. -/
def wtI (z : Int × Int) (n : Int) : Int := if 1 ≤ n ∧ n ≤ 5 then (gmul z (gpow (2, 1) (7 * n.toNat))).1 else -1

theorem wtI_in {z : Int × Int} {n : Int} (h : 1 ≤ n ∧ n ≤ 5) : 0 ≤ wtI z n ∧ wtI z n ≤ 65520 := by
  unfold wtI
  rw [if_pos h]
  exact (ok_gmul _ _).1

theorem wtI_out {z : Int × Int} {n : Int} (h : ¬ (1 ≤ n ∧ n ≤ 5)) : wtI z n = -1 := by
  unfold wtI
  rw [if_neg h]

/-- Whether one may be picked. -/
def chB (l : List Int) (nw n : Int) : Bool := !decide (n = nw) && hasI l n

def fiveI : List Int := [1, 2, 3, 4, 5]

/-- Those of whom one is picked. -/
def choI (l : List Int) (nw : Int) : List Int := fiveI.filter (chB l nw)

def pkS (wt : Int → Int) (b n : Int) : Int := if b = 0 ∨ wt b < wt n then n else b

/-- Of some the one of the greatest weight, 0: there is none. -/
def pkI (wt : Int → Int) (l : List Int) : Int := l.foldl (pkS wt) 0

def pickI (z : Int × Int) (l : List Int) (nw : Int) : Int := pkI (wtI z) (choI l nw)

theorem pkI_snoc (wt : Int → Int) (l : List Int) (n : Int) : pkI wt (l ++ [n]) = pkS wt (pkI wt l) n := by
  unfold pkI
  rw [List.foldl_append]
  rfl

theorem snoc_ind {P : List Int → Prop} (h0 : P []) (h1 : ∀ l n, P l → P (l ++ [n])) (l : List Int) : P l := by
  have : ∀ m : List Int, P m.reverse := by
    intro m
    induction m with
    | nil => exact h0
    | cons a m ih =>
      rw [List.reverse_cons]
      exact h1 _ _ ih
  have h := this l.reverse
  rwa [List.reverse_reverse] at h

/-- One of the greatest weight, of two of one weight the lesser number. -/
def Best (wt : Int → Int) (l : List Int) (p : Int) : Prop := p ∈ l ∧ ∀ m ∈ l, wt m < wt p ∨ (wt m = wt p ∧ p ≤ m)

theorem Best.one {wt : Int → Int} {l : List Int} {p q : Int} (hp : Best wt l p) (hq : Best wt l q) : p = q := by
  have a := hp.2 q hq.1
  have b := hq.2 p hp.1
  omega

theorem pkI_best (wt : Int → Int) (l : List Int) : l.Pairwise (· < ·) → (∀ x ∈ l, 1 ≤ x) → (l = [] ∧ pkI wt l = 0) ∨ Best wt l (pkI wt l) := by
  refine snoc_ind (P := fun l => l.Pairwise (· < ·) → (∀ x ∈ l, 1 ≤ x) → (l = [] ∧ pkI wt l = 0) ∨ Best wt l (pkI wt l)) (fun _ _ => .inl ⟨rfl, rfl⟩) (fun l n ih hs hl => ?_) l
  right
  rw [List.pairwise_append] at hs
  have ih := ih hs.1 (fun x hx => hl x (List.mem_append_left _ hx))
  rw [pkI_snoc]
  rcases ih with ⟨rfl, h0⟩ | ih
  · rw [h0]
    have e : pkS wt 0 n = n := by unfold pkS; rw [if_pos (.inl rfl)]
    rw [e]
    refine ⟨by simp, fun m hm => ?_⟩
    simp at hm
    subst hm
    exact .inr ⟨rfl, Int.le_refl _⟩
  · generalize pkI wt l = b at *
    have hb1 := hl b (List.mem_append_left _ ih.1)
    have hbn : b < n := hs.2.2 b ih.1 n (by simp)
    unfold pkS
    by_cases hw : wt b < wt n
    · rw [if_pos (.inr hw)]
      refine ⟨by simp, fun m hm => ?_⟩
      rcases List.mem_append.1 hm with hm | hm
      · have := ih.2 m hm
        left; omega
      · simp at hm
        subst hm
        exact .inr ⟨rfl, Int.le_refl _⟩
    · rw [if_neg (by omega)]
      refine ⟨List.mem_append_left _ ih.1, fun m hm => ?_⟩
      rcases List.mem_append.1 hm with hm | hm
      · exact ih.2 m hm
      · simp at hm
        subst hm
        omega

theorem five_mem (x : Int) : x ∈ fiveI ↔ 1 ≤ x ∧ x ≤ 5 := by
  unfold fiveI
  simp
  omega

theorem cho_mem (l : List Int) (nw x : Int) : x ∈ choI l nw ↔ (1 ≤ x ∧ x ≤ 5) ∧ x ≠ nw ∧ x ∈ l := by
  unfold choI chB
  rw [List.mem_filter, five_mem, Bool.and_eq_true, has_mem]
  simp

theorem cho_sorted (l : List Int) (nw : Int) : (choI l nw).Pairwise (· < ·) := by
  unfold choI
  refine List.Pairwise.filter _ ?_
  unfold fiveI
  decide

theorem cho_le (l : List Int) (nw x : Int) (h : x ∈ choI l nw) : 1 ≤ x := ((cho_mem l nw x).1 h).1.1

theorem cho_len (l : List Int) (nw : Int) : (choI l nw).length ≤ 5 := by
  unfold choI
  exact Nat.le_trans (List.length_filter_le _ _) (by decide)

theorem pick_best {z : Int × Int} {l : List Int} {nw : Int} {x : Int} (h : x ∈ choI l nw) : Best (wtI z) (choI l nw) (pickI z l nw) := by
  rcases pkI_best (wtI z) _ (cho_sorted l nw) (cho_le l nw) with ⟨h0, _⟩ | h1
  · rw [h0] at h; cases h
  · exact h1

/-- A chain that may be has one that may be picked. -/
theorem cho_some {e : Int} {l : List Int} {nw : Int} (h : mayR ⟨e, l, nw⟩ = true) : ∃ x, x ∈ choI l nw := by
  have h2 := mayR_ns h
  have h3 := (mayNs_iff l).1 h2.1
  obtain ⟨hlen, hin, hp⟩ := h3
  obtain ⟨x, hx⟩ : ∃ x, l[0]? = some x := ⟨_, List.getElem?_eq_getElem (by omega)⟩
  have hxm : x ∈ l := List.mem_of_getElem? hx
  refine ⟨x, (cho_mem l nw x).2 ⟨hin x hxm, ?_, hxm⟩⟩
  have hw := h2.2
  unfold mayW at hw
  rw [Bool.or_eq_true, Bool.and_eq_true, decide_eq_true_eq, decide_eq_true_eq, decide_eq_true_eq] at hw
  rcases hw with hw | ⟨hl, ht⟩
  · have := hin x hxm
    omega
  · intro he
    obtain ⟨y, hy⟩ : ∃ y, l[l.length - 1]? = some y := ⟨_, List.getElem?_eq_getElem (by omega)⟩
    have hty : tailI l = y := by
      unfold tailI
      rw [show ((l.length : Int) - 1) = ((l.length - 1 : Nat) : Int) by omega]
      exact getI_at hy
    have := List.pairwise_iff_getElem.1 hp 0 (l.length - 1) (by omega) (by omega) (by omega)
    rw [List.getElem?_eq_getElem (by omega)] at hx hy
    simp only [Option.some.injEq] at hx hy
    apply this
    rw [hx, hy, he, ht, hty]

/-- Who is picked hangs on who is of the list alone. -/
theorem cho_same {l m : List Int} (nw : Int) (h : ∀ x, x ∈ l ↔ x ∈ m) : choI l nw = choI m nw := by
  unfold choI
  refine List.filter_congr fun x _ => ?_
  unfold chB
  have : hasI l x = hasI m x := by
    rw [Bool.eq_iff_iff, has_mem, has_mem]
    exact h x
  rw [this]

theorem pick_same {l m : List Int} (z : Int × Int) (nw : Int) (h : ∀ x, x ∈ l ↔ x ∈ m) : pickI z l nw = pickI z m nw := by
  unfold pickI
  rw [cho_same nw h]

/-- Without one only its keys go to others. -/
theorem pick_drop {l : List Int} {k : Nat} {n : Int} (z : Int × Int) (hl : ∀ x ∈ l, 1 ≤ x ∧ x ≤ 5) (hp : l.Pairwise (· ≠ ·)) (h2 : 2 ≤ l.length) (hk : l[k]? = some n) :
    pickI z (l.take k ++ l.drop (k + 1)) 0 ≠ n ∧ (pickI z l 0 = pickI z (l.take k ++ l.drop (k + 1)) 0 ∨ pickI z l 0 = n) := by
  have hkl : k < l.length := (List.getElem?_eq_some_iff.1 hk).1
  have hkn : l[k] = n := (List.getElem?_eq_some_iff.1 hk).2
  have hm : ∀ x, x ∈ l.take k ++ l.drop (k + 1) ↔ x ∈ l ∧ x ≠ n := by
    intro x
    have hs : l = l.take k ++ n :: l.drop (k + 1) := by
      rw [← hkn, ← List.drop_eq_getElem_cons hkl, List.take_append_drop]
    have hp' := hp
    rw [hs, List.pairwise_append, List.pairwise_cons] at hp'
    obtain ⟨_, ⟨q1, _⟩, q2⟩ := hp'
    constructor
    · intro hx
      refine ⟨by rw [hs]; rcases List.mem_append.1 hx with h | h; · exact List.mem_append_left _ h
                 · exact List.mem_append_right _ (List.mem_cons_of_mem _ h), ?_⟩
      rcases List.mem_append.1 hx with h | h
      · exact q2 x h n List.mem_cons_self
      · exact fun e => q1 x h e.symm
    · rintro ⟨hx, hn⟩
      rw [hs] at hx
      rcases List.mem_append.1 hx with h | h
      · exact List.mem_append_left _ h
      · rcases List.mem_cons.1 h with h | h
        · exact absurd h hn
        · exact List.mem_append_right _ h
  generalize hL : l.take k ++ l.drop (k + 1) = m at *
  have hlen : m.length = l.length - 1 := by rw [← hL]; simp; omega
  obtain ⟨y, hy⟩ : ∃ y, m[0]? = some y := ⟨_, List.getElem?_eq_getElem (by omega)⟩
  have hym : y ∈ m := List.mem_of_getElem? hy
  have hyl := (hm y).1 hym
  have hyc : y ∈ choI m 0 := (cho_mem m 0 y).2 ⟨hl y hyl.1, by have := hl y hyl.1; omega, hym⟩
  have hyd : y ∈ choI l 0 := (cho_mem l 0 y).2 ⟨hl y hyl.1, by have := hl y hyl.1; omega, hyl.1⟩
  have hq := pick_best (z := z) hyc
  have hp := pick_best (z := z) hyd
  have hqm := (cho_mem m 0 _).1 hq.1
  refine ⟨((hm _).1 hqm.2.2).2, ?_⟩
  by_cases e : pickI z l 0 = n
  · exact .inr e
  · left
    have hpl := (cho_mem l 0 _).1 hp.1
    have hpm : pickI z l 0 ∈ choI m 0 := (cho_mem m 0 _).2 ⟨hpl.1, hpl.2.1, (hm _).2 ⟨hpl.2.2, e⟩⟩
    refine Best.one (wt := wtI z) (l := choI m 0) ⟨hpm, fun x hx => ?_⟩ hq
    have hxm := (cho_mem m 0 x).1 hx
    exact hp.2 x ((cho_mem l 0 x).2 ⟨hxm.1, hxm.2.1, ((hm x).1 hxm.2.2).1⟩)

/-- How many keys each has: ps are those that were picked. -/
def cntI (ps : List Int) (n : Int) : Nat := (ps.filter fun p => p == n).length

theorem cntI_snoc (ps : List Int) (p n : Int) : cntI (ps ++ [p]) n = cntI ps n + if p = n then 1 else 0 := by
  unfold cntI
  rw [List.filter_append, List.length_append]
  by_cases h : p = n
  · subst h; simp
  · simp [h]

theorem cntI_le (ps : List Int) (n : Int) : cntI ps n ≤ ps.length := List.length_filter_le _ _

end Go.Proofs.YtmamepmfbfinlaaGreatDoor
