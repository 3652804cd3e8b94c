/-
  Contracts of the program, and what they rest on.
-/
import Derived.Test.YtcnbgpgbeibakaaGreatDoorM05
import Derived.Test.YtcnbgpgbeibakaaGreatDoorM34
namespace Go.Proofs.YtcnbgpgbeibakaaGreatDoor
open Go.RowKit Go.Maps Go.Proofs.MapD Go.Proofs.Chest
def HdR (r : Ro) : Prop := r.l = [1] ∨ ∃ n, r.l = [1, n] ∧ r.nw = n
def HdS (s : Cs) : Prop := HdR s.r ∧ (s.nx = Ro.zero ∨ HdR s.nx)
theorem one_dup {e nw n : Int} (h : mayR ⟨e, [1, n], nw⟩ = true) : n ≠ 1 := by
  rintro rfl
  have h1 := (mayR_ns (e := e) (nw := nw) h).1
  exact absurd h1 (by decide)
theorem HdR.add {r : Ro} (h : HdR r) (n : Int) : (addR r n).1 = Ro.zero ∨ HdR (addR r n).1 := by
  rcases addR_cases r n with ⟨h1, h2, h3, h4, _⟩ | h1
  · rw [h1]
    refine .inr ?_
    rcases h with h | ⟨m, h, h5⟩
    · exact .inr ⟨n, by rw [h]; rfl, rfl⟩
    · have := may_mem h3 (n := m) (by rw [h]; simp)
      omega
  · rw [h1]
    exact .inl rfl
theorem HdR.drop {r : Ro} (h : HdR r) {m : Int} (hm : m ∈ r.l) : (dropR r m).1 = Ro.zero ∨ HdR (dropR r m).1 := by
  obtain ⟨e, l, nw⟩ := r
  rcases h with h | ⟨n, h, h5⟩
  · dsimp only at h hm
    subst h
    obtain rfl : m = 1 := by simpa using hm
    refine .inl ?_
    unfold dropR
    rw [show ixN [1] 1 = some 0 from rfl]
    dsimp only
    cases mayR ⟨e, [1], nw⟩ with
    | false => rfl
    | true =>
      rw [if_pos rfl]
      unfold chkR
      rw [if_neg (by
        intro hh
        have := (mayR_ns hh).1
        exact absurd this (by decide))]
  · dsimp only at h hm h5
    subst h h5
    unfold dropR
    cases hq : mayR ⟨e, [1, nw], nw⟩ with
    | false =>
      refine .inl ?_
      split <;> rfl
    | true =>
      have hn := one_dup hq
      rcases List.mem_cons.1 hm with rfl | hm
      · rw [show ixN [1, nw] 1 = some 0 from rfl]
        refine .inl ?_
        dsimp only
        rw [if_pos rfl]
        unfold chkR
        rw [if_neg (by
          intro hh
          rw [if_neg hn] at hh
          have h6 := (mayR_ns hh).2
          have h0 := may_mem hq (n := nw) (by simp)
          unfold mayW at h6
          rw [decide_eq_false (show ¬ nw = 0 by omega)] at h6
          simp at h6)]
      · obtain rfl : m = nw := by simpa using hm
        have h7 : ixN [1, m] m = some 1 := by
          have : ((1 : Int) == m) = false := by rw [beq_eq_false_iff_ne]; exact fun e => hn e.symm
          simp [ixN, List.findIdx?_cons, this]
        rw [h7]
        dsimp only
        rw [if_pos rfl, if_pos rfl]
        rcases chkR_cases ⟨e + 1, List.take 1 [1, m] ++ List.drop (1 + 1) [1, m], 0⟩ with ⟨h8, _⟩ | h8
        · rw [h8]
          exact .inr (.inl rfl)
        · rw [h8]
          exact .inl rfl
theorem HdS.spot {s : Cs} (h : HdS s) : ixI s.r.l 1 = 0 := by
  rcases h.1 with h1 | ⟨n, h1, _⟩
  · rw [h1]
    rfl
  · rw [h1]
    rfl
theorem mod_five (n : Int) : ∃ k : Nat, (n.tmod 5 + 5).tmod 5 = (k : Int) ∧ k < 5 ∧ -5 < n.tmod 5 ∧ n.tmod 5 < 5 := by
  have g1 := Int.tmod_lt_of_pos n (show (0 : Int) < 5 by decide)
  have g2 := Int.lt_tmod_of_pos n (show (0 : Int) < 5 by decide)
  generalize n.tmod 5 = r at *
  have g3 := Int.tmod_lt_of_pos (r + 5) (show (0 : Int) < 5 by decide)
  have g4 := Int.tmod_nonneg 5 (show (0 : Int) ≤ r + 5 by omega)
  exact ⟨((r + 5).tmod 5).toNat, by omega, by omega, by omega, by omega⟩
end Go.Proofs.YtcnbgpgbeibakaaGreatDoor
