/-
  Contracts of the program, and what they rest on.
-/
import Derived.Test.YtaacdggjkfmehaaGreatDoorM34
namespace Go.Proofs.YtaacdggjkfmehaaGreatDoor
open Go.RowKit Go.Maps Go.Proofs.MapD Go.Proofs.Chest
theorem Sp.dropL {w0 w : World} : ∀ {l L : List It}, Sp w0 w (l ++ L) → Sp w0 w L
  | [], _, h => h
  | _ :: _, _, h => Sp.dropL h.drop
theorem LeaseOut.ck {w0 w : World} {x j c R : Nat} {s : Cs} {L : List It} {q : Option (Int × Int)} {r : Ro} {u : Value} (h : LeaseOut q r u (fun l => CK w0 w x j c R s (l ++ L))) : CK w0 w x j c R s L := by
  have hk : ∀ l, CK w0 w x j c R s (l ++ L) → CK w0 w x j c R s L := fun l ⟨v, v', b, rs, hg, hsp⟩ => by
    refine ⟨v, v', b, rs, hg, ?_⟩
    have hp : (cx x j v v' s :: jc c j (jst R b rs) (jjr b rs) :: (l ++ L)).Perm (l ++ (cx x j v v' s :: jc c j (jst R b rs) (jjr b rs) :: L)) := by
      have h1 := (List.perm_append_comm (l₁ := [cx x j v v' s, jc c j (jst R b rs) (jjr b rs)]) (l₂ := l)).append_right L
      simpa using h1
    exact Sp.dropL (hsp.perm hp)
  match q, h with
  | none, ⟨_, h2⟩ => exact h2
  | some (to, un), ⟨g, ad, cap, _, h2⟩ => exact hk _ h2
theorem CK.chief {w0 w : World} {x j c R : Nat} {s : Cs} {L : List It} (h : CK w0 w x j c R s L) : ∃ v v', CC w x j v v' s ∧ IsAt w v s.r.l ∧ mayR s.r = true ∧ s.r.l.length ≤ 5 := by
  obtain ⟨v, v', b, rs, hg, hsp⟩ := h
  exact ⟨v, v', hsp.ck.1, hsp.ck.2.1, hg.may, hg.len.1⟩
end Go.Proofs.YtaacdggjkfmehaaGreatDoor
