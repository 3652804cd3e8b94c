/-
  Contracts of the program, and what they rest on.
-/
import Derived.Test.YtaacdggjkfmehaaGreatDoorM22
import Derived.Test.YtaacdggjkfmehaaGreatDoorRChJ
import Derived.Test.YtaacdggjkfmehaaGreatDoorHeldS
namespace Go.Proofs.YtaacdggjkfmehaaGreatDoor
open Go.RowKit Go.Maps Go.Proofs.MapD Go.Proofs.Chest
def io (v : Value) (l : List Int) : It where
  p w F := IOwn w 0 v l ∧ F = v.ownBlock.toList
  kept := fun ⟨h, e⟩ hk => ⟨h.kept (fun g hg => hk g (by simp [e, hg])), e⟩
  lt := fun ⟨h, e⟩ k hk => (h.lt (g := k) (by rw [e] at hk; simpa using hk)).2
theorem IOwn.some {w : World} {B : Nat} {ad : Option Addr} {n cap : Nat} {a : Int} {l : List Int} (h : IOwn w B (.slice ad n cap) (a :: l)) : ∃ b, ad = Option.some ⟨b, 0, none⟩ := by
  obtain ⟨_, ⟨h1, h2⟩ | ⟨g, c, cur, h1, _⟩⟩ := h
  · cases h2
  · injection h1 with h1
    exact ⟨g, h1⟩
theorem IOwn.cell {w : World} {B b n cap : Nat} {l : List Int} (h : IOwn w B (.slice (Option.some ⟨b, 0, none⟩) n cap) l) {k : Nat} (hk : k < l.length) : (∃ u, w.cell? ⟨b, k, none⟩ = Option.some u) ∧ w.frozen? ⟨b, k, none⟩ = false := by
  obtain ⟨_, ⟨h1, _⟩ | ⟨g, c, cur, h1, _, h3, h4, _, h6, _⟩⟩ := h
  · cases h1
  · injection h1 with h1 _ _
    injection h1 with h1
    injection h1 with h1 _ _
    subst h1
    refine ⟨?_, frozen_block h3⟩
    rw [cell_block h3]
    exact ⟨_, Array.getElem?_eq_getElem (by omega)⟩
section
variable {w0 w : World} {x j c R : Nat} {v v' : Value} {s : Cs} {L : List It}
theorem Sp.io {l : List Int} (h : Sp w0 w (Go.Proofs.YtaacdggjkfmehaaGreatDoor.io v l :: L)) : IOwn w 0 v l := by
  obtain ⟨F, h1, _⟩ := h.get
  exact h1
theorem CK.dropI {i : It} (h : CK w0 w x j c R s (i :: L)) : CK w0 w x j c R s L := by
  obtain ⟨v, v', bb, rs, hg, hsp⟩ := h
  exact ⟨v, v', bb, rs, hg, hsp.rot.drop⟩
theorem CK.mem {i : It} (h : CK w0 w x j c R s L) (hi : i ∈ L) : ∃ F, i.p w F := by
  obtain ⟨v, v', bb, rs, hg, hsp⟩ := h
  exact hsp.mem (.tail _ (.tail _ hi))
end
def LeaseOwn (q : Option (Int × Int)) (r : Ro) (u : Value) (K : List It → Prop) : Prop :=
  match q with
  | none => u = .slice none 0 0 ∧ K []
  | some (to, un) => ∃ g ad cap, u = .slice (some ⟨g, 0, none⟩) 1 1 ∧ K [Go.Proofs.YtaacdggjkfmehaaGreatDoor.wx g (wcells to un r ad cap), io (.slice ad r.l.length cap) r.l]
theorem LeaseOwn.mono {q : Option (Int × Int)} {r : Ro} {u : Value} {K K' : List It → Prop} (h : LeaseOwn q r u K) (hk : ∀ l, K l → K' l) : LeaseOwn q r u K' := by
  match q, h with
  | none, ⟨h1, h2⟩ => exact ⟨h1, hk _ h2⟩
  | some (to, un), ⟨g, ad, cap, h1, h2⟩ => exact ⟨g, ad, cap, h1, hk _ h2⟩
end Go.Proofs.YtaacdggjkfmehaaGreatDoor
