/-
  Contracts of the program, and what they rest on.
-/
import Derived.Laws.Rows
import Derived.Test.YtaacdggjkfmehaaGreatDoorM22
import Derived.Test.YtaacdggjkfmehaaGreatDoorRChJ
namespace Go.Proofs.YtaacdggjkfmehaaGreatDoor
open Go.RowKit Go.Maps Go.Proofs.MapD Go.Proofs.Chest
structure RbR (w : World) (B : Nat) (e nw : Int) (l : List Int) (m : Nat) (la : Option Addr) (lc : Nat) (wr : World) : Prop where
  box : RH wr B e (.slice la m lc) nw
  own : IOwn wr (B + 1) (.slice la m lc) l
  len : l.length = m
  bl : Below w.heap.size w wr
  ge : w.heap.size ≤ B
theorem RbR.step {w wr W3 : World} {B m : Nat} {e nw : Int} {l : List Int} {la : Option Addr} {lc : Nat} {x : Int} {v' : Value} (h : RbR w B e nw l m la lc wr) {c1 : Obj}
    (hown : W3.ownsRow (B + 1) 3 1 v' (m + 1) (icells l ++ icells [x])) (hgrow : (wr.alloc c1).grownBy W3 (Value.slice la m lc).ownBlock) :
    RC W3 B e (.slice la m lc) nw ∧ ∃ la' lc', v' = .slice la' (m + 1) lc' ∧ RbR w B e nw (l ++ [x]) (m + 1) la' lc' (W3.setCell ⟨B, 1, none⟩ v') := by
  rw [← icells_append] at hown
  have hL : (l ++ [x]).length = m + 1 := by simp [h.len]
  have ho : IOwn W3 (B + 1) v' (l ++ [x]) := by unfold IOwn; rw [hL]; exact hown
  obtain ⟨la', lc', hv⟩ := ho.shape
  rw [hL] at hv
  subst hv
  have hown0 := h.own
  have hlt := fun j (hj : (Value.slice la m lc).ownBlock = some j) => hown0.lt (g := j) hj
  have hB := h.box.lt
  have hge := h.ge
  have e1 : W3.heap[B]? = wr.heap[B]? := by
    rw [hgrow.block B (by simp; omega) (fun ee => by have := (hlt B (by first | exact ee | exact ee.symm)).1; omega), heap_alloc_old _ _ hB]
  have hb3 : RH W3 B e (.slice la m lc) nw := e1.trans h.box
  refine ⟨hb3.rc, la', lc', rfl, set_block (k := 1) hb3, ?_, hL, ?_, hge⟩
  · rw [← hL] at ho ⊢
    exact ho.kept (fun j hj => Below.heap_setCell _ _ _ _ (by have := (ho.lt hj).1; simp; omega))
  · refine ((h.bl.alloc h.bl.size c1).grown hgrow (by have := h.bl.size; simp; omega) (fun j hj => ?_)).setCell (p := ⟨B, 1, none⟩) (by simpa using hge) _
    have := (hlt j hj).1
    omega
theorem Sp.dropL {w0 w : World} : ∀ {l L : List It}, Sp w0 w (l ++ L) → Sp w0 w L
  | [], _, h => h
  | _ :: _, _, h => Sp.dropL h.drop
theorem LeaseOut.ck {w0 w : World} {x j c R : Nat} {s : Cs} {L : List It} {q : Option (Int × Int)} {r : Ro} {u : Value} (h : LeaseOut q r u (fun l => CK w0 w x j c R s (l ++ L))) : CK w0 w x j c R s L := by
  have hk : ∀ l, CK w0 w x j c R s (l ++ L) → CK w0 w x j c R s L := fun l ⟨v, v', b, rs, hg, hsp⟩ => by
    refine ⟨v, v', b, rs, hg, ?_⟩
    have hp : (cx x j v v' s :: jc c j (jst R b rs) (jjr b rs) :: (l ++ L)).Perm (l ++ (cx x j v v' s :: jc c j (jst R b rs) (jjr b rs) :: L)) := by
      have h1 := (List.perm_append_comm (l₁ := [cx x j v v' s, jc c j (jst R b rs) (jjr b rs)]) (l₂ := l)).append_right L
      simpa using h1
    exact Sp.dropL (hsp.perm hp)
  match q, h with
  | none, ⟨_, h2⟩ => exact h2
  | some (to, un), ⟨g, ad, cap, _, h2⟩ => exact hk _ h2
theorem CK.chief {w0 w : World} {x j c R : Nat} {s : Cs} {L : List It} (h : CK w0 w x j c R s L) : ∃ v v', CC w x j v v' s ∧ IsAt w v s.r.l ∧ mayR s.r = true ∧ s.r.l.length ≤ 5 := by
  obtain ⟨v, v', b, rs, hg, hsp⟩ := h
  exact ⟨v, v', hsp.ck.1, hsp.ck.2.1, hg.may, hg.len.1⟩
end Go.Proofs.YtaacdggjkfmehaaGreatDoor
