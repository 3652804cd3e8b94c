/-
  Contracts of the program, and what they rest on.
-/
import Derived.Test.YtaacdggjkfmehaaGreatDoorM22
import Derived.Test.YtaacdggjkfmehaaGreatDoorM03
import Derived.Test.YtaacdggjkfmehaaGreatDoorM02
import Derived.Deep.QuietTactic
import Derived.BigQuiet
import Derived.Test.YtaacdggjkfmehaaGreatDoorProg
import Derived.WalkKit
import Derived.WalkSpells
import Derived.WalkLawsBesides
import Derived.Lib.Hide
import Derived.Deep.RegionLaw
import Derived.Deep.RegionHeld3
import Derived.BigRegion
import Derived.Laws.Rows
import Derived.Laws.Tables
import Derived.Test.YtaacdggjkfmehaaGreatDoorRRosF
import Derived.Test.YtaacdggjkfmehaaGreatDoorRChJ
import Derived.Test.YtaacdggjkfmehaaGreatDoorChP
import Derived.Test.YtaacdggjkfmehaaGreatDoorCaA
import Derived.Test.YtaacdggjkfmehaaGreatDoorCaB
import Derived.Test.YtaacdggjkfmehaaGreatDoorCaC
import Derived.Test.YtaacdggjkfmehaaGreatDoorHeldS
namespace Go.Proofs.YtaacdggjkfmehaaGreatDoor
open Go.RowKit Go.Maps Go.Proofs.MapD Go.Proofs.Chest
theorem clmod_five (n : Int) : ∃ k : Nat, (n.tmod 5 + 5).tmod 5 = (k : Int) ∧ k < 5 ∧ -5 < n.tmod 5 ∧ n.tmod 5 < 5 := by
  have g1 := Int.tmod_lt_of_pos n (show (0 : Int) < 5 by decide)
  have g2 := Int.lt_tmod_of_pos n (show (0 : Int) < 5 by decide)
  generalize n.tmod 5 = r at *
  have g3 := Int.tmod_lt_of_pos (r + 5) (show (0 : Int) < 5 by decide)
  have g4 := Int.tmod_nonneg 5 (show (0 : Int) ≤ r + 5 by omega)
  exact ⟨((r + 5).tmod 5).toNat, by omega, by omega, by omega, by omega⟩
theorem clmod_four (n : Int) : ∃ k : Nat, (n.tmod 4 + 4).tmod 4 = (k : Int) ∧ k < 4 ∧ -4 < n.tmod 4 ∧ n.tmod 4 < 4 := by
  have g1 := Int.tmod_lt_of_pos n (show (0 : Int) < 4 by decide)
  have g2 := Int.lt_tmod_of_pos n (show (0 : Int) < 4 by decide)
  generalize n.tmod 4 = r at *
  have g3 := Int.tmod_lt_of_pos (r + 4) (show (0 : Int) < 4 by decide)
  have g4 := Int.tmod_nonneg 4 (show (0 : Int) ≤ r + 4 by omega)
  exact ⟨((r + 4).tmod 4).toNat, by omega, by omega, by omega, by omega⟩
theorem QHb.all {now : Int} (h : 0 ≤ now ∧ now ≤ 1000000) : QHb (allH now) := fun k hk => by
  obtain rfl | rfl | rfl | rfl | rfl | rfl : k = 0 ∨ k = 1 ∨ k = 2 ∨ k = 3 ∨ k = 4 ∨ k = 5 := by omega
  all_goals exact h
theorem QHb.set {hd : List Int} {now : Int} (h : QHb hd) (hn : 0 ≤ now ∧ now ≤ 1000000) (m : Nat) : QHb (hd.set m now) := fun k hk => by
  by_cases e : m = k
  · subst e
    by_cases hl : m < hd.length
    · rw [show (hd.set m now).getD m 0 = now by simp [List.getD_eq_getElem?_getD, hl]]
      exact hn
    · rw [List.set_eq_of_length_le (by omega)]
      exact h m hk
  · rw [show (hd.set m now).getD k 0 = hd.getD k 0 by simp [List.getD_eq_getElem?_getD, e]]
    exact h k hk
theorem QHb.step {t : Qs} {now : Int} (h : QHb t.hd) (hn : 0 ≤ now ∧ now ≤ 1000000) (k n to ep : Int) : QHb (qstep t k n to ep now).1.hd := by
  unfold qstep qbeat qfull
  split
  · exact h
  split
  · split
    · exact h
    split
    · exact h.set hn _
    · exact h.set hn _
  split
  · dsimp only
    split
    · exact h
    · exact h
  · exact h
theorem QHb.tick {t : Qs} {now : Int} (h : QHb t.hd) (hn : 0 ≤ now ∧ now ≤ 1000000) : QHb (qtick t now).hd := by
  unfold qtick
  split
  · split
    · exact QHb.all hn
    · exact h
  · split
    · exact h
    · exact h
section
variable {w0 w : World} {x j c R y : Nat} {s : Cs} {t : Qs} {v v' : Value} {L : List It}
theorem CK.up {w' : World} {i i' : It} (h : CK w0 w x j c R s (i :: L)) (k : ∀ M, Sp w0 w (i :: M) → Sp w0 w' (i' :: M)) : CK w0 w' x j c R s (i' :: L) := by
  obtain ⟨a, a', bb, rs, hg, hsp⟩ := h
  exact ⟨a, a', bb, rs, hg, (k _ hsp.rot).perm (List.perm_middle (l₁ := [cx x j a a' s, jc c j (jst R bb rs) (jjr bb rs)])).symm⟩
theorem Sp.rxPut {b : Nat} {e0 n0 : Int} {v0 : Value} (h : Sp w0 w (Go.Proofs.YtaacdggjkfmehaaGreatDoor.rx b e0 v0 n0 :: L)) (e n : Int) (v : Value) : Sp w0 (((w.setCell ⟨b, 0, none⟩ (.int .i64 e)).setCell ⟨b, 1, none⟩ v).setCell ⟨b, 2, none⟩ (.int .i64 n)) (Go.Proofs.YtaacdggjkfmehaaGreatDoor.rx b e v n :: L) := by
  obtain ⟨F, ⟨h1, e1⟩, _, k⟩ := h.turn
  exact k (Go.Proofs.YtaacdggjkfmehaaGreatDoor.rx b e v n) _ ⟨[b], ⟨RH.put h1 e n v, rfl⟩, by simp [e1], (((Only.refl F w).setCell (p := ⟨b, 0, none⟩) (.inl (by simp [e1])) _).setCell (p := ⟨b, 1, none⟩) (.inl (by simp [e1])) _).setCell (p := ⟨b, 2, none⟩) (.inl (by simp [e1])) _⟩
theorem Sp.wxSet {g : Nat} {cs : Array Value} (h : Sp w0 w (Go.Proofs.YtaacdggjkfmehaaGreatDoor.wx g cs :: L)) (k : Nat) (z : Value) : Sp w0 (w.setCell ⟨g, k, none⟩ z) (Go.Proofs.YtaacdggjkfmehaaGreatDoor.wx g (cs.setIfInBounds k z) :: L) := by
  obtain ⟨F, ⟨h1, e1⟩, _, kk⟩ := h.turn
  exact kk (Go.Proofs.YtaacdggjkfmehaaGreatDoor.wx g (cs.setIfInBounds k z)) _ ⟨[g], ⟨set_block h1, rfl⟩, by simp [e1], (Only.refl F w).setCell (p := ⟨g, k, none⟩) (.inl (by simp [e1])) _⟩
theorem CK.newq {e : Int} {l : List Int} {u : Value} (h : CK w0 w x j c R s (ix u l :: L)) (hm : mayR ⟨e, l, 0⟩ = true) (now : Int) :
    Calls Tryz.prog 9 #[.agg #[.int .i64 e, u, .int .i64 0], .int .i64 now] w fun z w' => ∃ y, z = .returned (.tuple #[.pointer (some ⟨y, 0, none⟩), .bool true]) ∧ CK w0 w' x j c R s (qx y u (.slice none 0 0) (qbegin ⟨e, l, 0⟩ now) :: L) := by
  obtain ⟨a, a', bb, rs, hg, hsp⟩ := h
  refine (newq_yes hsp.rot hm now).mono ?_
  rintro _ w' ⟨y, rfl, h2⟩
  exact ⟨y, rfl, a, a', bb, rs, hg, h2.perm (List.perm_middle (l₁ := [cx x j a a' s, jc c j (jst R bb rs) (jjr bb rs)])).symm⟩
theorem CK.dropTail {i : It} (h : CK w0 w x j c R s (i :: L)) : CK w0 w x j c R s [i] := by
  obtain ⟨a, a', bb, rs, hg, hsp⟩ := h
  refine ⟨a, a', bb, rs, hg, ?_⟩
  have h1 := hsp.perm (List.perm_append_comm (l₁ := [cx x j a a' s, jc c j (jst R bb rs) (jjr bb rs), i]) (l₂ := L))
  exact Sp.dropL h1
end
section
variable {w0 w : World} {x j c R : Nat} {s : Cs} {L : List It}
theorem CK.rosterq (h : CK w0 w x j c R s L) :
    Calls Tryz.prog 17 #[.pointer (some ⟨x, 0, none⟩)] w fun y w' => ∃ ad cap, y = .returned (.agg #[.int .i64 s.r.ep, .slice ad s.r.l.length cap, .int .i64 s.r.nw]) ∧ IsAt w' (.slice ad s.r.l.length cap) s.r.l ∧ CK w0 w' x j c R s L := by
  obtain ⟨v, v', hc, hv, _, hl⟩ := h.chief
  refine (croster_p hc hv (by omega)).mono ?_
  rintro y w' ⟨ad, cap, rfl, ho, hb⟩
  exact ⟨ad, cap, rfl, ho.at, h.below hb⟩
theorem CK.changingq (h : CK w0 w x j c R s L) : Calls Tryz.prog 18 #[.pointer (some ⟨x, 0, none⟩)] w fun y w' => y = .returned (.bool s.chg) ∧ w = w' := by
  obtain ⟨v, v', hc, _⟩ := h.chief
  exact changing_p hc
theorem CK.untilq (h : CK w0 w x j c R s L) : Calls Tryz.prog 19 #[.pointer (some ⟨x, 0, none⟩)] w fun y w' => y = .returned (.int .i64 s.un) ∧ w = w' := by
  obtain ⟨v, v', hc, _⟩ := h.chief
  exact until_p hc
theorem CK.lostq (h : CK w0 w x j c R s L) : Calls Tryz.prog 20 #[.pointer (some ⟨x, 0, none⟩)] w fun y w' => y = .returned (.bool s.lost) ∧ w = w' := by
  obtain ⟨v, v', hc, _⟩ := h.chief
  exact lost_p hc
theorem Sim.same {t : Qs} (h : Sim s t) (h5 : s.r.l.length ≤ 1000) {v v' : Value} {W : World} (hv : IsAt W v s.r.l) (hv' : IsAt W v' t.r.l) :
    Calls Tryz.prog 16 #[.agg #[.int .i64 s.r.ep, v, .int .i64 s.r.nw], .agg #[.int .i64 t.r.ep, v', .int .i64 t.r.nw]] W fun r w' => r = .returned (.bool true) ∧ Below W.heap.size W w' := by
  have h1 := reqr_p s.r.ep s.r.nw t.r.ep t.r.nw _ _ s.r.l t.r.l W hv hv' h5 (by rw [h.r]; exact h5)
  rw [show eqR ⟨s.r.ep, s.r.l, s.r.nw⟩ ⟨t.r.ep, t.r.l, t.r.nw⟩ = true by rw [show (⟨t.r.ep, t.r.l, t.r.nw⟩ : Ro) = t.r from rfl, h.r]; exact eqR_refl _] at h1
  exact h1
end
def wagz (n ep : Int) : Array Value := #[.int .i64 0, .int .i64 n, .int .i64 0, .int .i64 ep, .int .i64 0, .int .i64 0, .int .i64 0, .int .i64 0, .int .i64 0, .int .i64 0, .slice none 0 0, .int .i64 0, .slice none 0 0, .int .i64 0, .slice none 0 0, .slice none 0 0, .int .i64 0, .int .i64 0, .int .i64 0, .int .i64 0, .int .i64 0]
theorem wagz_one (n ep : Int) : (wagz n ep).all (·.oneCell') = true := by simp [wagz, Value.oneCell']
def wagv (k n tt ep : Int) (q : Wq) : Array Value := #[.int .i64 k, .int .i64 n, .int .i64 tt, .int .i64 ep, .int .i64 q.seq, .int .i64 q.req, .int .i64 q.un, .int .i64 q.e, .int .i64 q.v, .int .i64 q.ep, .slice q.a1 q.n1 q.c1, .int .i64 q.nw, .slice q.a2 q.n2 q.c2, .int .i64 q.ss, .slice q.a3 q.n3 q.c3, .slice q.a4 q.n4 q.c4, .int .i64 q.l1, .int .i64 q.l2, .int .i64 q.l3, .int .i64 q.l4, .int .i64 q.l5]
theorem CK.wxNew {w0 w : World} {x j c R : Nat} {s : Cs} {L : List It} (h : CK w0 w x j c R s L) (cs : Array Value) : CK w0 (w.alloc (.cells cs 46)).drew x j c R s (wx w.heap.size cs :: L) := by
  obtain ⟨a, a', bb, rs, hg, hsp⟩ := h
  have h1 := hsp.new (i := wx w.heap.size cs) (((Below.refl _ w).alloc (Nat.le_refl _) (.cells cs 46)).drew) ⟨[w.heap.size], ⟨heap_alloc_new w _, rfl⟩, by simp⟩
  exact ⟨a, a', bb, rs, hg, h1.perm (List.perm_middle (l₁ := [cx x j a a' s, jc c j (jst R bb rs) (jjr bb rs)])).symm⟩
def ClH (w wr : World) (x j c y : Nat) (u u' : Value) (s : Cs) (t : Qs) : Prop :=
  CK w wr x j c 1048576 s [qx y u u' t] ∧ Sim s t ∧ QHb t.hd
end Go.Proofs.YtaacdggjkfmehaaGreatDoor
