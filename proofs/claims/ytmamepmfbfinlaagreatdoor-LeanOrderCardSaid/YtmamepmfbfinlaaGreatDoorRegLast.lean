/-
  A region that draws its order, whose last operation waits for all the others: the others by a held walk, then the last.
-/
import Derived.Test.YtmamepmfbfinlaaGreatDoorProg
import Derived.WalkKit
import Derived.WalkSpells
import Derived.WalkLawsBesides
import Derived.Lib.Hide
import Derived.BigQuiet
import Derived.Deep.RegionLaw
import Derived.Deep.RegionHeld3
import Derived.BigRegion
namespace Go.Proofs.YtmamepmfbfinlaaGreatDoor
open Go.RowKit

section
variable {P : Program} {Q : Exit → Act → World → Prop}

def awaits (o : Oper) (i : Nat) : Bool := o.after.any fun e => Region.binds .any e && e.on == i

def opAwaits (ops : Array Oper) (j i : Nat) : Bool := match ops[j]? with | some p => awaits p i | none => false

def opFree (ops : Array Oper) (i : Nat) : Bool := match ops[i]? with | some p => p.guard.isNone && p.after.all (fun e : Edge => decide (e.on < i)) | none => false

/-- No operation is guarded; each waits for lower ones alone; each but the last is awaited by a higher one or by the last. -/
def lastOf (ops : Array Oper) (o : Oper) : Bool :=
  (o.guard.isNone && o.after.all (fun e : Edge => decide (e.on < ops.size))) && (List.range ops.size).all (fun i => opFree ops i) &&
    (List.range ops.size).all (fun i => awaits o i || (List.range ops.size).any fun j => decide (i < j) && opAwaits ops j i)

structure LastOf (ops : Array Oper) (o : Oper) : Prop where
  free : ∀ (i : Nat) (p : Oper), ops[i]? = some p → p.guard = none ∧ ∀ e ∈ p.after, e.on < i
  last : o.guard = none
  low : ∀ e ∈ o.after, e.on < ops.size
  up : ∀ i, i < ops.size → awaits o i = true ∨ ∃ j, i < j ∧ j < ops.size ∧ opAwaits ops j i = true

theorem lastOf_spec {ops : Array Oper} {o : Oper} (h : lastOf ops o = true) : LastOf ops o := by
  unfold lastOf at h
  rw [Bool.and_eq_true, Bool.and_eq_true, Bool.and_eq_true] at h
  obtain ⟨⟨⟨h1, h0⟩, h2⟩, h3⟩ := h
  refine ⟨fun i p hp => ?_, by simpa using h1, fun e he => by simpa using Array.all_eq_true_iff_forall_mem.1 h0 e he, fun i hi => ?_⟩
  · have hi : i < ops.size := (Array.getElem?_eq_some_iff.1 hp).1
    have := List.all_eq_true.1 h2 i (List.mem_range.2 hi)
    unfold opFree at this
    simp only [hp, Bool.and_eq_true] at this
    refine ⟨by simpa using this.1, fun e he => ?_⟩
    have := Array.all_eq_true_iff_forall_mem.1 this.2 e he
    simpa using this
  · have := List.all_eq_true.1 h3 i (List.mem_range.2 hi)
    rw [Bool.or_eq_true] at this
    rcases this with h | h
    · exact .inl h
    · obtain ⟨j, hj, hh⟩ := List.any_eq_true.1 h
      rw [Bool.and_eq_true] at hh
      exact .inr ⟨j, by simpa using hh.1, List.mem_range.1 hj, hh.2⟩

theorem awaits_spec {o : Oper} {i : Nat} (h : awaits o i = true) : ∃ e ∈ o.after, Region.binds .any e = true ∧ e.on = i := by
  unfold awaits at h
  rw [← Array.any_toList] at h
  obtain ⟨e, he, hh⟩ := List.any_eq_true.1 h
  rw [Array.mem_toList_iff] at he
  rw [Bool.and_eq_true] at hh
  exact ⟨e, he, hh.1, by simpa using hh.2⟩

/-- Whatever is listed, so is what it waits for. -/
def Down (ops : Array Oper) (listed : Array Bool) : Prop := ∀ (j : Nat) (p : Oper), ops[j]? = some p → listed.getD j false = true → ∀ e ∈ p.after, Region.binds .any e = true → listed.getD e.on false = true

theorem getD_push (l : Array Bool) (i : Nat) : (l.push false).getD i false = l.getD i false := by
  rw [Array.getD_eq_getD_getElem?, Array.getD_eq_getD_getElem?, Array.getElem?_push]
  split
  · rename_i h
    subst h
    rw [Array.getElem?_eq_none (Nat.le_refl _)]
    rfl
  · rfl

theorem getD_push_lt (l : Array Bool) {i : Nat} (h : i < l.size) : (l.push false).getD i true = l.getD i true := by
  rw [Array.getD_eq_getD_getElem?, Array.getD_eq_getD_getElem?, Array.getElem?_push, if_neg (by omega)]

theorem getD_tf (l : Array Bool) {i : Nat} (h : i < l.size) : l.getD i true = l.getD i false := by
  rw [Array.getD_eq_getD_getElem?, Array.getD_eq_getD_getElem?, Array.getElem?_eq_getElem h]
  rfl

theorem wpOp_push {ops : Array Oper} {o : Oper} {i : Nat} (hi : i < ops.size) (hg : ∀ p, ops[i]? = some p → p.guard = none) {N : Act → World → Prop} {K : Act → World → Prop} {a : Act} {w : World}
    (h : wpOp P ops (Exit.then N Q) i K a w) : wpOp P (ops.push o) Q i K a w := by
  unfold wpOp at *
  rw [Array.getElem?_push, if_neg (by omega)]
  rw [Array.getElem?_eq_getElem hi] at *
  have hg' : ops[i].guard = none := hg _ rfl
  have hw : ∀ f, Region.wanted ops[i] f = true := fun f => by unfold Region.wanted; rw [hg']
  simp only [hw, if_true] at *
  rcases h with h | ⟨h1, h2⟩
  · refine .inl ?_
    unfold Oper.wp at *
    generalize (execOp a.eval ops[i]).run P w = r at *
    cases r with
    | ok n w' =>
      cases n <;> simp only [Oper.upon] at h ⊢ <;> first | exact h | exact Calls.mono h (fun e w'' he => by cases e <;> exact he)
    | halt x w' => cases x <;> simp only [Oper.upon] at h ⊢ <;> exact h
  · exact .inr ⟨h1, h2⟩

theorem any_done {ops : Array Oper} {listed : Array Bool} {a : Act} {w : World} (hr : Region.ready .any ops listed = []) (h : Q .normal a w) : ∀ fuel, wpAny P .any ops Q fuel listed a w
  | 0 => ⟨hr, h⟩
  | _ + 1 => ⟨fun _ => h, by rw [hr]; simp⟩

theorem wpAny_mono {ops : Array Oper} {md : Region.Mode} {N N' : Act → World → Prop} (hq : ∀ a w, N a w → N' a w) : ∀ (fuel : Nat) (listed : Array Bool) (a : Act) (w : World), wpAny P md ops (Exit.then N Q) fuel listed a w → wpAny P md ops (Exit.then N' Q) fuel listed a w := by
  have one : ∀ (i : Nat) (K K' : Act → World → Prop) (a : Act) (w : World), (∀ a w, K a w → K' a w) → wpOp P ops (Exit.then N Q) i K a w → wpOp P ops (Exit.then N' Q) i K' a w := by
    intro i K K' a w hk h
    have h := wpOp_mono hk h
    unfold wpOp at *
    split
    · simpa [*] using h
    · rename_i o ho
      simp only [ho] at h
      split
      · rename_i hw
        simp only [hw, if_true] at h
        rcases h with h | ⟨h1, h2⟩
        · refine .inl ?_
          unfold Oper.wp at *
          generalize (execOp a.eval o).run P w = r at *
          cases r with
          | ok n w' =>
            cases n <;> simp only [Oper.upon] at h ⊢ <;> first | exact h | exact Calls.mono h (fun e w'' he => by cases e <;> exact he)
          | halt x w' => cases x <;> simp only [Oper.upon] at h ⊢ <;> exact h
        · exact .inr ⟨h1, h2⟩
      · rename_i hw
        simp only [hw] at h
        exact h
  intro fuel
  induction fuel with
  | zero => intro listed a w h; exact ⟨h.1, hq _ _ h.2⟩
  | succ fuel ih => intro listed a w h; exact ⟨fun h0 => hq _ _ (h.1 h0), fun i hi => one i _ _ a w (fun a w hk => ih _ a w hk) (h.2 i hi)⟩

theorem any_last {ops : Array Oper} {o : Oper} (hl : LastOf ops o) : ∀ (fuel : Nat) (listed : Array Bool) (a : Act) (w : World), listed.size = ops.size → Down ops listed →
    wpAny P .any ops (Exit.then (fun a w => wpOp P (ops.push o) Q ops.size (Q .normal) a w) Q) fuel listed a w → wpAny P .any (ops.push o) Q (fuel + 1) (listed.push false) a w := by
  -- none is ready: all are listed
  have all : ∀ listed : Array Bool, listed.size = ops.size → Region.ready .any ops listed = [] → ∀ i, i < ops.size → listed.getD i false = true := by
    intro listed hs hr i
    induction i using Nat.strongRecOn with
    | _ i ih =>
      intro hi
      cases hb : listed.getD i false with
      | true => rfl
      | false =>
        exfalso
        have : i ∈ Region.ready .any ops listed := by
          refine mem_ready.2 ⟨by rw [getD_tf _ (by omega)]; exact hb, ops[i], Array.getElem?_eq_getElem hi, fun e he _ => ?_⟩
          have := (hl.free i _ (Array.getElem?_eq_getElem hi)).2 e he
          exact ih e.on this (by omega)
        rw [hr] at this
        cases this
  -- the last may come: all are listed
  have top : ∀ listed : Array Bool, Down ops listed → (∀ e ∈ o.after, Region.binds .any e = true → listed.getD e.on false = true) → ∀ n i, ops.size - i ≤ n → i < ops.size → listed.getD i false = true := by
    intro listed hd ho n
    induction n with
    | zero => intro i h1 h2; omega
    | succ n ih =>
      intro i h1 h2
      rcases hl.up i h2 with h | ⟨j, h3, h4, h5⟩
      · obtain ⟨e, he, hb, rfl⟩ := awaits_spec h
        exact ho e he hb
      · unfold opAwaits at h5
        rw [Array.getElem?_eq_getElem h4] at h5
        obtain ⟨e, he, hb, rfl⟩ := awaits_spec h5
        exact hd j _ (Array.getElem?_eq_getElem h4) (ih j (by omega) h4) e he hb
  have full : ∀ listed : Array Bool, listed.size = ops.size → (∀ i, i < ops.size → listed.getD i false = true) → Region.ready .any ops listed = [] := by
    intro listed hs h
    refine List.eq_nil_iff_forall_not_mem.2 fun j hj => ?_
    obtain ⟨h1, p, hp, _⟩ := mem_ready.1 hj
    have hj : j < ops.size := (Array.getElem?_eq_some_iff.1 hp).1
    rw [getD_tf _ (by omega), h j hj] at h1
    cases h1
  have atEnd : ∀ (fuel : Nat) (listed : Array Bool) (a : Act) (w : World), listed.size = ops.size → (∀ i, i < ops.size → listed.getD i false = true) → wpOp P (ops.push o) Q ops.size (Q .normal) a w →
      wpOp P (ops.push o) Q ops.size (wpAny P .any (ops.push o) Q fuel ((listed.push false).setIfInBounds ops.size true)) a w := by
    intro fuel listed a w hs h hq
    refine wpOp_mono (fun a' w' hq' => any_done ?_ hq' fuel) hq
    refine List.eq_nil_iff_forall_not_mem.2 fun j hj => ?_
    obtain ⟨h1, p, hp, _⟩ := mem_ready.1 hj
    have hj : j < (ops.push o).size := (Array.getElem?_eq_some_iff.1 hp).1
    rw [Array.size_push] at hj
    by_cases hjs : j = ops.size
    · subst hjs
      rw [← hs, Array.getD_eq_getD_getElem?] at h1
      simp at h1
    · have h2 := h j (by omega)
      rw [Array.getD_eq_getD_getElem?, Array.getElem?_setIfInBounds_ne (fun e => hjs e.symm), ← Array.getD_eq_getD_getElem?, getD_push_lt _ (by omega), getD_tf _ (by omega), h2] at h1
      cases h1
  have ready : ∀ listed : Array Bool, listed.size = ops.size → (∀ i, i < ops.size → listed.getD i false = true) → ops.size ∈ Region.ready .any (ops.push o) (listed.push false) := by
    intro listed hs h
    refine mem_ready.2 ⟨?_, o, by simp, fun e he _ => ?_⟩
    · rw [← hs, Array.getD_eq_getD_getElem?]; simp
    · rw [getD_push]; exact h _ (hl.low e he)
  have below : ∀ (listed : Array Bool) (i : Nat), listed.size = ops.size → i ∈ Region.ready .any (ops.push o) (listed.push false) → i < ops.size → i ∈ Region.ready .any ops listed := by
    intro listed i hs hi hlt
    obtain ⟨h1, p, hp, h2⟩ := mem_ready.1 hi
    rw [Array.getElem?_push, if_neg (by omega)] at hp
    rw [getD_push_lt _ (by omega)] at h1
    exact mem_ready.2 ⟨h1, p, hp, fun e he hb => by rw [← getD_push]; exact h2 e he hb⟩
  have above : ∀ (listed : Array Bool) (i : Nat), listed.size = ops.size → Down ops listed → i ∈ Region.ready .any (ops.push o) (listed.push false) → ¬ i < ops.size → i = ops.size ∧ ∀ k, k < ops.size → listed.getD k false = true := by
    intro listed i hs hd hi hge
    obtain ⟨h1, p, hp, h2⟩ := mem_ready.1 hi
    have hi2 : i < (ops.push o).size := (Array.getElem?_eq_some_iff.1 hp).1
    rw [Array.size_push] at hi2
    obtain rfl : i = ops.size := by omega
    rw [Array.getElem?_push_size] at hp
    obtain rfl := Option.some.inj hp
    exact ⟨rfl, fun k hk => top listed hd (fun e he hb => by rw [← getD_push]; exact h2 e he hb) _ k (Nat.le_refl _) hk⟩
  intro fuel
  induction fuel with
  | zero =>
    intro listed a w hs hd h
    have hA := all listed hs h.1
    refine ⟨fun h0 => ?_, fun i hi => ?_⟩
    · have := ready listed hs hA
      rw [h0] at this
      cases this
    · by_cases hlt : i < ops.size
      · have := below listed i hs hi hlt
        rw [h.1] at this
        cases this
      · obtain ⟨rfl, hf⟩ := above listed i hs hd hi hlt
        exact atEnd _ _ _ _ hs hf h.2
  | succ fuel ih =>
    intro listed a w hs hd h
    refine ⟨fun h0 => ?_, fun i hi => ?_⟩
    · have hA : ∀ i, i < ops.size → listed.getD i false = true := by
        refine all listed hs (List.eq_nil_iff_forall_not_mem.2 fun j hj => ?_)
        obtain ⟨h1, p, hp, h2⟩ := mem_ready.1 hj
        have hjs : j < ops.size := (Array.getElem?_eq_some_iff.1 hp).1
        have : j ∈ Region.ready .any (ops.push o) (listed.push false) := mem_ready.2 ⟨by rw [getD_push_lt _ (by omega)]; exact h1, p, by rw [Array.getElem?_push, if_neg (by omega)]; exact hp, fun e he hb => by rw [getD_push]; exact h2 e he hb⟩
        rw [h0] at this
        cases this
      have := ready listed hs hA
      rw [h0] at this
      cases this
    · by_cases hlt : i < ops.size
      · have hb := below listed i hs hi hlt
        refine wpOp_push hlt (fun p hp => (hl.free i p hp).1) (wpOp_mono (fun a' w' hk => ?_) (h.2 i hb))
        have e1 : (listed.push false).setIfInBounds i true = (listed.setIfInBounds i true).push false := by
          apply Array.ext_getElem?
          intro k
          simp only [Array.getElem?_setIfInBounds, Array.getElem?_push, Array.size_push, Array.size_setIfInBounds]
          by_cases hik : i = k
          · subst hik
            rw [if_pos rfl, if_pos (by omega), if_neg (by omega), if_pos rfl, if_pos (by omega)]
          · rw [if_neg hik, if_neg hik]
        rw [e1]
        refine ih _ _ _ (by simp [hs]) (fun j p hp hj e he hbn => ?_) hk
        obtain ⟨_, q, hq, hdeps⟩ := mem_ready.1 hb
        have mono : ∀ k, listed.getD k false = true → (listed.setIfInBounds i true).getD k false = true := by
          intro k hk
          rw [Array.getD_eq_getD_getElem?, Array.getElem?_setIfInBounds]
          by_cases hik : i = k
          · subst hik; rw [if_pos rfl, if_pos (by omega)]; rfl
          · rw [if_neg hik, ← Array.getD_eq_getD_getElem?]; exact hk
        by_cases hij : i = j
        · subst hij
          rw [hq] at hp
          obtain rfl := Option.some.inj hp
          exact mono _ (hdeps e he hbn)
        · rw [Array.getD_eq_getD_getElem?, Array.getElem?_setIfInBounds, if_neg hij, ← Array.getD_eq_getD_getElem?] at hj
          exact mono _ (hd j p hp hj e he hbn)
      · obtain ⟨rfl, hf⟩ := above listed i hs hd hi hlt
        refine atEnd _ _ _ _ hs hf (h.1 (full listed hs hf))

/-- All but the last, held; then the last. -/
theorem wp_region_last {S : World → Prop} {id : Nat} {ops : Array Oper} {all : Array Oper} {o : Oper} {a : Act} {w : World} (hm : P.follows .mixedOrders = true) (he : all = ops.push o) (hl : lastOf ops o = true)
    (h : wpAnyH P .any ops (Exit.then (fun a w => if Region.wanted o (yielded all a.tmps) = true then Oper.wp P o a w (Q .normal) Q else Q .normal (a.put o.dst undef) w) Q) S ops.size (Array.replicate ops.size false) a w.drew) : (Code.region id all true).wp P Q a w := by
  subst he
  refine wp_region_any hm ?_
  have := any_last (P := P) (Q := Q) (lastOf_spec hl) ops.size (Array.replicate ops.size false) a w.drew (by simp) (fun j p hp hj => by
    have hj' : j < ops.size := (Array.getElem?_eq_some_iff.1 hp).1
    rw [Array.getD_eq_getD_getElem?] at hj
    simp [hj'] at hj) ?_
  · rw [Array.size_push, Array.replicate_succ]
    exact this
  · refine wpAny_mono (fun a w hq => ?_) _ _ _ _ (wpAny_of_held _ _ _ _ h)
    unfold wpOp
    rw [Array.getElem?_push_size]
    simp only
    split
    · rename_i hw
      simp only [hw, if_true] at hq
      exact .inl hq
    · rename_i hw
      simp only [hw] at hq
      exact hq

end
end Go.Proofs.YtmamepmfbfinlaaGreatDoor
