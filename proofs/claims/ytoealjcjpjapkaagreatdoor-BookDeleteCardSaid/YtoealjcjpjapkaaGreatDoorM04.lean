/-
 Contracts of the program, and what they rest on.
-/
import Derived.Test.YtoealjcjpjapkaaGreatDoorProg
import Derived.WalkKit
import Derived.WalkSpells
import Derived.WalkLawsBesides
import Derived.Lib.Hide
import Derived.BigQuiet
import Derived.Deep.RegionLaw
import Derived.Deep.RegionHeld3
import Derived.BigRegion
namespace Go.Proofs.YtoealjcjpjapkaaGreatDoor
open Go.RowKit
section
variable {P : Program} {Q : Exit → Act → World → Prop}
def awaits (o : Oper) (i : Nat) : Bool := o.after.any fun e => Region.binds .any e && e.on == i
def opAwaits (ops : Array Oper) (j i : Nat) : Bool := match ops[j]? with | some p => awaits p i | none => false
def opFree (ops : Array Oper) (i : Nat) : Bool := match ops[i]? with | some p => p.guard.isNone && p.after.all (fun e : Edge => decide (e.on < i)) | none => false
def lastOf (ops : Array Oper) (o : Oper) : Bool :=
 (o.guard.isNone && o.after.all (fun e : Edge => decide (e.on < ops.size))) && (List.range ops.size).all (fun i => opFree ops i) &&
  (List.range ops.size).all (fun i => awaits o i || (List.range ops.size).any fun j => decide (i < j) && opAwaits ops j i)
structure LastOf (ops : Array Oper) (o : Oper) : Prop where
 free : ∀ (i : Nat) (p : Oper), ops[i]? = some p → p.guard = none ∧ ∀ e ∈ p.after, e.on < i
 last : o.guard = none
 low : ∀ e ∈ o.after, e.on < ops.size
 up : ∀ i, i < ops.size → awaits o i = true ∨ ∃ j, i < j ∧ j < ops.size ∧ opAwaits ops j i = true
theorem lastOf_spec {ops : Array Oper} {o : Oper} (h : lastOf ops o = true) : LastOf ops o := by
 unfold lastOf at h
 rw [Bool.and_eq_true, Bool.and_eq_true, Bool.and_eq_true] at h
 obtain ⟨⟨⟨h1, h0⟩, h2⟩, h3⟩ := h
 refine ⟨fun i p hp => ?_, by simpa using h1, fun e he => by simpa using Array.all_eq_true_iff_forall_mem.1 h0 e he, fun i hi => ?_⟩
 ·have hi : i < ops.size := (Array.getElem?_eq_some_iff.1 hp).1
  have := List.all_eq_true.1 h2 i (List.mem_range.2 hi)
  unfold opFree at this
  simp only [hp, Bool.and_eq_true] at this
  refine ⟨by simpa using this.1, fun e he => ?_⟩
  have := Array.all_eq_true_iff_forall_mem.1 this.2 e he
  simpa using this
 ·have := List.all_eq_true.1 h3 i (List.mem_range.2 hi)
  rw [Bool.or_eq_true] at this
  rcases this with h | h
  ·exact .inl h
  ·obtain ⟨j, hj, hh⟩ := List.any_eq_true.1 h
   rw [Bool.and_eq_true] at hh
   exact .inr ⟨j, by simpa using hh.1, List.mem_range.1 hj, hh.2⟩
theorem awaits_spec {o : Oper} {i : Nat} (h : awaits o i = true) : ∃ e ∈ o.after, Region.binds .any e = true ∧ e.on = i := by
 unfold awaits at h
 rw [← Array.any_toList] at h
 obtain ⟨e, he, hh⟩ := List.any_eq_true.1 h
 rw [Array.mem_toList_iff] at he
 rw [Bool.and_eq_true] at hh
 exact ⟨e, he, hh.1, by simpa using hh.2⟩
def Down (ops : Array Oper) (listed : Array Bool) : Prop := ∀ (j : Nat) (p : Oper), ops[j]? = some p → listed.getD j false = true → ∀ e ∈ p.after, Region.binds .any e = true → listed.getD e.on false = true
theorem getD_push (l : Array Bool) (i : Nat) : (l.push false).getD i false = l.getD i false := by
 rw [Array.getD_eq_getD_getElem?, Array.getD_eq_getD_getElem?, Array.getElem?_push]
 split
 ·rename_i h
  subst h
  rw [Array.getElem?_eq_none (Nat.le_refl _)]
  rfl
 ·rfl
theorem getD_push_lt (l : Array Bool) {i : Nat} (h : i < l.size) : (l.push false).getD i true = l.getD i true := by
 rw [Array.getD_eq_getD_getElem?, Array.getD_eq_getD_getElem?, Array.getElem?_push, if_neg (by omega)]
theorem getD_tf (l : Array Bool) {i : Nat} (h : i < l.size) : l.getD i true = l.getD i false := by
 rw [Array.getD_eq_getD_getElem?, Array.getD_eq_getD_getElem?, Array.getElem?_eq_getElem h]
 rfl
theorem wpOp_push {ops : Array Oper} {o : Oper} {i : Nat} (hi : i < ops.size) (hg : ∀ p, ops[i]? = some p → p.guard = none) {N : Act → World → Prop} {K : Act → World → Prop} {a : Act} {w : World}
  (h : wpOp P ops (Exit.then N Q) i K a w) : wpOp P (ops.push o) Q i K a w := by
 unfold wpOp at *
 rw [Array.getElem?_push, if_neg (by omega)]
 rw [Array.getElem?_eq_getElem hi] at *
 have hg' : ops[i].guard = none := hg _ rfl
 have hw : ∀ f, Region.wanted ops[i] f = true := fun f => by unfold Region.wanted; rw [hg']
 simp only [hw, if_true] at *
 rcases h with h | ⟨h1, h2⟩
 ·refine .inl ?_
  unfold Oper.wp at *
  generalize (execOp a.eval ops[i]).run P w = r at *
  cases r with
  | ok n w' =>
   cases n <;> simp only [Oper.upon] at h ⊢ <;> first | exact h | exact Calls.mono h (fun e w'' he => by cases e <;> exact he)
  | halt x w' => cases x <;> simp only [Oper.upon] at h ⊢ <;> exact h
 ·exact .inr ⟨h1, h2⟩
theorem any_done {ops : Array Oper} {listed : Array Bool} {a : Act} {w : World} (hr : Region.ready .any ops listed = []) (h : Q .normal a w) : ∀ fuel, wpAny P .any ops Q fuel listed a w
 | 0 => ⟨hr, h⟩
 | _ + 1 => ⟨fun _ => h, by rw [hr]; simp⟩
theorem wpAny_mono {ops : Array Oper} {md : Region.Mode} {N N' : Act → World → Prop} (hq : ∀ a w, N a w → N' a w) : ∀ (fuel : Nat) (listed : Array Bool) (a : Act) (w : World), wpAny P md ops (Exit.then N Q) fuel listed a w → wpAny P md ops (Exit.then N' Q) fuel listed a w := by
 have one : ∀ (i : Nat) (K K' : Act → World → Prop) (a : Act) (w : World), (∀ a w, K a w → K' a w) → wpOp P ops (Exit.then N Q) i K a w → wpOp P ops (Exit.then N' Q) i K' a w := by
  intro i K K' a w hk h
  have h := wpOp_mono hk h
  unfold wpOp at *
  split
  ·simpa [*] using h
  ·rename_i o ho
   simp only [ho] at h
   split
   ·rename_i hw
    simp only [hw, if_true] at h
    rcases h with h | ⟨h1, h2⟩
    ·refine .inl ?_
     unfold Oper.wp at *
     generalize (execOp a.eval o).run P w = r at *
     cases r with
     | ok n w' =>
      cases n <;> simp only [Oper.upon] at h ⊢ <;> first | exact h | exact Calls.mono h (fun e w'' he => by cases e <;> exact he)
     | halt x w' => cases x <;> simp only [Oper.upon] at h ⊢ <;> exact h
    ·exact .inr ⟨h1, h2⟩
   ·rename_i hw
    simp only [hw] at h
    exact h
 intro fuel
 induction fuel with
 | zero => intro listed a w h; exact ⟨h.1, hq _ _ h.2⟩
 | succ fuel ih => intro listed a w h; exact ⟨fun h0 => hq _ _ (h.1 h0), fun i hi => one i _ _ a w (fun a w hk => ih _ a w hk) (h.2 i hi)⟩
theorem any_last {ops : Array Oper} {o : Oper} (hl : LastOf ops o) : ∀ (fuel : Nat) (listed : Array Bool) (a : Act) (w : World), listed.size = ops.size → Down ops listed →
  wpAny P .any ops (Exit.then (fun a w => wpOp P (ops.push o) Q ops.size (Q .normal) a w) Q) fuel listed a w → wpAny P .any (ops.push o) Q (fuel + 1) (listed.push false) a w := by
 have all : ∀ listed : Array Bool, listed.size = ops.size → Region.ready .any ops listed = [] → ∀ i, i < ops.size → listed.getD i false = true := by
  intro listed hs hr i
  induction i using Nat.strongRecOn with
  | _ i ih =>
   intro hi
   cases hb : listed.getD i false with
   | true => rfl
   | false =>
    exfalso
    have : i ∈ Region.ready .any ops listed := by
     refine mem_ready.2 ⟨by rw [getD_tf _ (by omega)]; exact hb, ops[i], Array.getElem?_eq_getElem hi, fun e he _ => ?_⟩
     have := (hl.free i _ (Array.getElem?_eq_getElem hi)).2 e he
     exact ih e.on this (by omega)
    rw [hr] at this
    cases this
 have top : ∀ listed : Array Bool, Down ops listed → (∀ e ∈ o.after, Region.binds .any e = true → listed.getD e.on false = true) → ∀ n i, ops.size - i ≤ n → i < ops.size → listed.getD i false = true := by
  intro listed hd ho n
  induction n with
  | zero => intro i h1 h2; omega
  | succ n ih =>
   intro i h1 h2
   rcases hl.up i h2 with h | ⟨j, h3, h4, h5⟩
   ·obtain ⟨e, he, hb, rfl⟩ := awaits_spec h
    exact ho e he hb
   ·unfold opAwaits at h5
    rw [Array.getElem?_eq_getElem h4] at h5
    obtain ⟨e, he, hb, rfl⟩ := awaits_spec h5
    exact hd j _ (Array.getElem?_eq_getElem h4) (ih j (by omega) h4) e he hb
 have full : ∀ listed : Array Bool, listed.size = ops.size → (∀ i, i < ops.size → listed.getD i false = true) → Region.ready .any ops listed = [] := by
  intro listed hs h
  refine List.eq_nil_iff_forall_not_mem.2 fun j hj => ?_
  obtain ⟨h1, p, hp, _⟩ := mem_ready.1 hj
  have hj : j < ops.size := (Array.getElem?_eq_some_iff.1 hp).1
  rw [getD_tf _ (by omega), h j hj] at h1
  cases h1
 have atEnd : ∀ (fuel : Nat) (listed : Array Bool) (a : Act) (w : World), listed.size = ops.size → (∀ i, i < ops.size → listed.getD i false = true) → wpOp P (ops.push o) Q ops.size (Q .normal) a w →
   wpOp P (ops.push o) Q ops.size (wpAny P .any (ops.push o) Q fuel ((listed.push false).setIfInBounds ops.size true)) a w := by
  intro fuel listed a w hs h hq
  refine wpOp_mono (fun a' w' hq' => any_done ?_ hq' fuel) hq
  refine List.eq_nil_iff_forall_not_mem.2 fun j hj => ?_
  obtain ⟨h1, p, hp, _⟩ := mem_ready.1 hj
  have hj : j < (ops.push o).size := (Array.getElem?_eq_some_iff.1 hp).1
  rw [Array.size_push] at hj
  by_cases hjs : j = ops.size
  ·subst hjs
   rw [← hs, Array.getD_eq_getD_getElem?] at h1
   simp at h1
  ·have h2 := h j (by omega)
   rw [Array.getD_eq_getD_getElem?, Array.getElem?_setIfInBounds_ne (fun e => hjs e.symm), ← Array.getD_eq_getD_getElem?, getD_push_lt _ (by omega), getD_tf _ (by omega), h2] at h1
   cases h1
 have ready : ∀ listed : Array Bool, listed.size = ops.size → (∀ i, i < ops.size → listed.getD i false = true) → ops.size ∈ Region.ready .any (ops.push o) (listed.push false) := by
  intro listed hs h
  refine mem_ready.2 ⟨?_, o, by simp, fun e he _ => ?_⟩
  ·rw [← hs, Array.getD_eq_getD_getElem?]; simp
  ·rw [getD_push]; exact h _ (hl.low e he)
 have below : ∀ (listed : Array Bool) (i : Nat), listed.size = ops.size → i ∈ Region.ready .any (ops.push o) (listed.push false) → i < ops.size → i ∈ Region.ready .any ops listed := by
  intro listed i hs hi hlt
  obtain ⟨h1, p, hp, h2⟩ := mem_ready.1 hi
  rw [Array.getElem?_push, if_neg (by omega)] at hp
  rw [getD_push_lt _ (by omega)] at h1
  exact mem_ready.2 ⟨h1, p, hp, fun e he hb => by rw [← getD_push]; exact h2 e he hb⟩
 have above : ∀ (listed : Array Bool) (i : Nat), listed.size = ops.size → Down ops listed → i ∈ Region.ready .any (ops.push o) (listed.push false) → ¬ i < ops.size → i = ops.size ∧ ∀ k, k < ops.size → listed.getD k false = true := by
  intro listed i hs hd hi hge
  obtain ⟨h1, p, hp, h2⟩ := mem_ready.1 hi
  have hi2 : i < (ops.push o).size := (Array.getElem?_eq_some_iff.1 hp).1
  rw [Array.size_push] at hi2
  obtain rfl : i = ops.size := by omega
  rw [Array.getElem?_push_size] at hp
  obtain rfl := Option.some.inj hp
  exact ⟨rfl, fun k hk => top listed hd (fun e he hb => by rw [← getD_push]; exact h2 e he hb) _ k (Nat.le_refl _) hk⟩
 intro fuel
 induction fuel with
 | zero =>
  intro listed a w hs hd h
  have hA := all listed hs h.1
  refine ⟨fun h0 => ?_, fun i hi => ?_⟩
  ·have := ready listed hs hA
   rw [h0] at this
   cases this
  ·by_cases hlt : i < ops.size
   ·have := below listed i hs hi hlt
    rw [h.1] at this
    cases this
   ·obtain ⟨rfl, hf⟩ := above listed i hs hd hi hlt
    exact atEnd _ _ _ _ hs hf h.2
 | succ fuel ih =>
  intro listed a w hs hd h
  refine ⟨fun h0 => ?_, fun i hi => ?_⟩
  ·have hA : ∀ i, i < ops.size → listed.getD i false = true := by
    refine all listed hs (List.eq_nil_iff_forall_not_mem.2 fun j hj => ?_)
    obtain ⟨h1, p, hp, h2⟩ := mem_ready.1 hj
    have hjs : j < ops.size := (Array.getElem?_eq_some_iff.1 hp).1
    have : j ∈ Region.ready .any (ops.push o) (listed.push false) := mem_ready.2 ⟨by rw [getD_push_lt _ (by omega)]; exact h1, p, by rw [Array.getElem?_push, if_neg (by omega)]; exact hp, fun e he hb => by rw [getD_push]; exact h2 e he hb⟩
    rw [h0] at this
    cases this
   have := ready listed hs hA
   rw [h0] at this
   cases this
  ·by_cases hlt : i < ops.size
   ·have hb := below listed i hs hi hlt
    refine wpOp_push hlt (fun p hp => (hl.free i p hp).1) (wpOp_mono (fun a' w' hk => ?_) (h.2 i hb))
    have e1 : (listed.push false).setIfInBounds i true = (listed.setIfInBounds i true).push false := by
     apply Array.ext_getElem?
     intro k
     simp only [Array.getElem?_setIfInBounds, Array.getElem?_push, Array.size_push, Array.size_setIfInBounds]
     by_cases hik : i = k
     ·subst hik
      rw [if_pos rfl, if_pos (by omega), if_neg (by omega), if_pos rfl, if_pos (by omega)]
     ·rw [if_neg hik, if_neg hik]
    rw [e1]
    refine ih _ _ _ (by simp [hs]) (fun j p hp hj e he hbn => ?_) hk
    obtain ⟨_, q, hq, hdeps⟩ := mem_ready.1 hb
    have mono : ∀ k, listed.getD k false = true → (listed.setIfInBounds i true).getD k false = true := by
     intro k hk
     rw [Array.getD_eq_getD_getElem?, Array.getElem?_setIfInBounds]
     by_cases hik : i = k
     ·subst hik; rw [if_pos rfl, if_pos (by omega)]; rfl
     ·rw [if_neg hik, ← Array.getD_eq_getD_getElem?]; exact hk
    by_cases hij : i = j
    ·subst hij
     rw [hq] at hp
     obtain rfl := Option.some.inj hp
     exact mono _ (hdeps e he hbn)
    ·rw [Array.getD_eq_getD_getElem?, Array.getElem?_setIfInBounds, if_neg hij, ← Array.getD_eq_getD_getElem?] at hj
     exact mono _ (hd j p hp hj e he hbn)
   ·obtain ⟨rfl, hf⟩ := above listed i hs hd hi hlt
    refine atEnd _ _ _ _ hs hf (h.1 (full listed hs hf))
theorem wp_region_last {S : World → Prop} {id : Nat} {ops : Array Oper} {all : Array Oper} {o : Oper} {a : Act} {w : World} (hm : P.follows .mixedOrders = true) (he : all = ops.push o) (hl : lastOf ops o = true)
  (h : wpAnyH P .any ops (Exit.then (fun a w => if Region.wanted o (yielded all a.tmps) = true then Oper.wp P o a w (Q .normal) Q else Q .normal (a.put o.dst undef) w) Q) S ops.size (Array.replicate ops.size false) a w.drew) : (Code.region id all true).wp P Q a w := by
 subst he
 refine wp_region_any hm ?_
 have := any_last (P := P) (Q := Q) (lastOf_spec hl) ops.size (Array.replicate ops.size false) a w.drew (by simp) (fun j p hp hj => by
  have hj' : j < ops.size := (Array.getElem?_eq_some_iff.1 hp).1
  rw [Array.getD_eq_getD_getElem?] at hj
  simp [hj'] at hj) ?_
 ·rw [Array.size_push, Array.replicate_succ]
  exact this
 ·refine wpAny_mono (fun a w hq => ?_) _ _ _ _ (wpAny_of_held _ _ _ _ h)
  unfold wpOp
  rw [Array.getElem?_push_size]
  simp only
  split
  ·rename_i hw
   simp only [hw, if_true] at hq
   exact .inl hq
  ·rename_i hw
   simp only [hw] at hq
   exact hq
end
end Go.Proofs.YtoealjcjpjapkaaGreatDoor
namespace Go.Proofs.YtoealjcjpjapkaaGreatDoor
open Go.RowKit
section
variable {P : Program} {ops : Array Oper} {Q : Exit → Act → World → Prop} {S : Array Bool → World → Prop}
def RunsTo (P : Program) (o : Oper) (v : Value) (a : Act) (w : World) : Prop :=
 (execOp a.eval o).run P w = .ok (.value v) w ∨ ∃ f args, (execOp a.eval o).run P w = .ok (.enter f args) w ∧ Calls P f args w fun e w' => e = .returned v ∧ w = w'
def YieldsD (P : Program) (ops : Array Oper) (S : Array Bool → World → Prop) (i : Nat) (o : Oper) (v : Value) (a : Act) : Prop :=
 o.guard = none ∧ ∀ L w, L.getD i true = false → Down ops L → S L w → RunsTo P o v a w
theorem RunsTo.wp {o : Oper} {v : Value} {a : Act} {w : World} (h : RunsTo P o v a w) {K : Act → World → Prop} (hk : K (a.put o.dst v) w) : Oper.wp P o a w K Q := by
 unfold Oper.wp
 rcases h with h | ⟨f, args, h, hc⟩
 ·rw [h]; exact hk
 ·rw [h]
  refine Calls.mono hc fun e w' he => ?_
  obtain ⟨rfl, rfl⟩ := he
  exact hk
theorem wanted_free {o : Oper} (h : o.guard = none) (f : Nat → Option Bool) : Region.wanted o f = true := by
 unfold Region.wanted
 rw [h]
theorem YieldsD.wpOp {i : Nat} {o : Oper} {v : Value} {a : Act} (hi : ops[i]? = some o) (hy : YieldsD P ops S i o v a) {L : Array Bool} {w : World} (h1 : L.getD i true = false) (h2 : Down ops L) (h3 : S L w)
  {K : Act → World → Prop} (h : K (a.put o.dst v) w) : wpOp P ops Q i K a w := by
 unfold Go.wpOp
 simp only [hi, wanted_free hy.1, if_true]
 exact .inl ((hy.2 L w h1 h2 h3).wp h)
theorem wpOp_putD {i j : Nat} {oi oj : Oper} {v : Value} (hj : ops[j]? = some oj) (hap : oi.apart ops oj = true) (hgj : oj.guard = none)
  (hsi : ∀ cs b, oi.op ≠ .select cs b) (hsj : ∀ cs b, oj.op ≠ .select cs b)
  (hQ : ∀ c a w, Q (.panic c) (a.put oi.dst v) w → Q (.panic c) a w) {K : Act → World → Prop} {a : Act} {w : World}
  (hy : YieldsD P ops S i oi v a) (h : wpOp P ops Q j K (a.put oi.dst v) w) :
  wpOp P ops Q j (fun a' w' => YieldsD P ops S i oi v a' ∧ K (a'.put oi.dst v) w') a w := by
 obtain ⟨h1, h2, h3⟩ := Oper.apart_spec hap
 have same : ∀ {a a' : Act}, YieldsD P ops S i oi v a → execOp a'.eval oi = execOp a.eval oi → YieldsD P ops S i oi v a' := fun {a a'} hy he => ⟨hy.1, fun L w g1 g2 g3 => by
  have := hy.2 L w g1 g2 g3
  unfold RunsTo at *
  rw [he]
  exact this⟩
 have keep : ∀ (a : Act), YieldsD P ops S i oi v a → ∀ u, YieldsD P ops S i oi v (a.put oj.dst u) := fun a hy u => same hy (execOp_put oi hsi a oj.dst u h3)
 have keepD : ∀ d, YieldsD P ops S i oi v { a with defers := d :: a.defers } := fun d => same hy rfl
 unfold Go.wpOp at *
 simp only [hj, wanted_free hgj, if_true] at *
 rcases h with h | ⟨hasks, hlets⟩
 case inr => exact .inr ⟨by unfold Oper.asks at *; rw [execOp_put oj hsj a oi.dst v h1] at hasks; exact hasks, hlets⟩
 refine .inl ?_
 unfold Oper.wp at *
 rw [execOp_put oj hsj a oi.dst v h1] at h
 generalize (execOp a.eval oj).run P w = r at *
 cases r with
 | ok n w' =>
  cases n <;> simp only [Oper.upon] at h ⊢
  case value u => exact ⟨keep a hy u, by rw [← Act.put_comm a v u h2]; exact h⟩
  case skip => exact ⟨keep a hy _, by rw [← Act.put_comm a v undef h2]; exact h⟩
  case defer d =>
   refine ⟨keep _ (keepD d) _, ?_⟩
   rw [← Act.put_comm _ v undef h2, ← Act.put_defers]
   exact h
  case enter f args =>
   refine Calls.mono h fun e w'' he => ?_
   cases e with
   | returned u => exact ⟨keep a hy u, by rw [← Act.put_comm a v u h2]; exact he⟩
   | panicked c => exact hQ _ _ _ he
   | outgrown => exact he
  case row row args => exact Rows.mono h fun u w'' he => ⟨keep a hy u, by rw [← Act.put_comm a v u h2]; exact he⟩
 | halt x w' =>
  cases x <;> simp only [Oper.upon] at h ⊢
  case panic u => exact hQ _ _ _ h
def wpAnyD (P : Program) (ops : Array Oper) (Q : Exit → Act → World → Prop) (S : Array Bool → World → Prop) : Nat → Array Bool → Act → World → Prop
 | 0, listed, a, w => Region.ready .any ops listed = [] ∧ Q .normal a w
 | fuel + 1, listed, a, w =>
  (Region.ready .any ops listed = [] → Q .normal a w) ∧
  ∀ i ∈ Region.ready .any ops listed, wpOp P ops Q i (fun a' w' => S (listed.setIfInBounds i true) w' ∧ wpAnyD P ops Q S fuel (listed.setIfInBounds i true) a' w') a w
theorem wpAny_of_D : ∀ (fuel : Nat) (listed : Array Bool) (a : Act) (w : World), wpAnyD P ops Q S fuel listed a w → wpAny P .any ops Q fuel listed a w
 | 0, _, _, _, h => h
 | fuel + 1, _, _, _, h => ⟨h.1, fun i hi => wpOp_mono (fun a' w' h' => wpAny_of_D fuel _ a' w' h'.2) (h.2 i hi)⟩
theorem Down.set {listed : Array Bool} {j : Nat} (hd : Down ops listed) (hj : j ∈ Region.ready .any ops listed) : Down ops (listed.setIfInBounds j true) := by
 obtain ⟨_, q, hq, hdeps⟩ := mem_ready.1 hj
 have mono : ∀ k, listed.getD k false = true → (listed.setIfInBounds j true).getD k false = true := by
  intro k hk
  rw [Array.getD_eq_getD_getElem?] at hk ⊢
  rw [Array.getElem?_setIfInBounds]
  by_cases hjk : j = k
  ·subst hjk
   rw [if_pos rfl]
   cases hl : listed[j]? with
   | none => rw [hl] at hk; cases hk
   | some b => rw [if_pos (Array.getElem?_eq_some_iff.1 hl).1]; rfl
  ·rw [if_neg hjk]
   exact hk
 intro k p hp hk e he hb
 by_cases hjk : j = k
 ·subst hjk
  rw [hq] at hp
  obtain rfl := Option.some.inj hp
  exact mono _ (hdeps e he hb)
 ·refine mono _ (hd k p hp ?_ e he hb)
  rw [Array.getD_eq_getD_getElem?] at hk ⊢
  rwa [Array.getElem?_setIfInBounds_ne hjk] at hk
theorem wpAnyD_first {i : Nat} {oi : Oper} {v : Value} (hi : ops[i]? = some oi) (hsel : ∀ (j : Nat) (o : Oper) cs b, ops[j]? = some o → o.op ≠ .select cs b) (hg : ∀ (j : Nat) (o : Oper), ops[j]? = some o → o.guard = none)
  (hQ : ∀ c a w, Q (.panic c) (a.put oi.dst v) w → Q (.panic c) a w) (hSi : ∀ L w, S (L.setIfInBounds i true) w → S L w) (hSi' : ∀ L w, S L w → S (L.setIfInBounds i true) w) :
  ∀ (fuel : Nat) (listed : Array Bool) (a : Act) (w : World),
   (∀ j oj, ops[j]? = some oj → j ≠ i → listed.getD j true = false → (∀ e ∈ oj.after, Region.binds .any e = true → e.on ≠ i) → oi.apart ops oj = true) → Down ops listed →
   i ∈ Region.ready .any ops listed → YieldsD P ops S i oi v a → S listed w →
   wpAnyD P ops Q S fuel (listed.setIfInBounds i true) (a.put oi.dst v) w → wpAnyD P ops Q S (fuel + 1) listed a w := by
 intro fuel
 induction fuel with
 | zero =>
  intro listed a w _ hd hr hy hS H
  refine ⟨fun h => (by rw [h] at hr; cases hr), fun j hj => ?_⟩
  by_cases hji : j = i
  ·subst hji; exact hy.wpOp hi (mem_ready.1 hr).1 hd hS ⟨hSi' _ _ hS, H⟩
  ·have := ready_mono hj hji
   rw [H.1] at this
   cases this
 | succ fuel ih =>
  intro listed a w hfree hd hr hy hS H
  refine ⟨fun h => (by rw [h] at hr; cases hr), fun j hj => ?_⟩
  by_cases hji : j = i
  ·subst hji; exact hy.wpOp hi (mem_ready.1 hr).1 hd hS ⟨hSi' _ _ hS, H⟩
  ·have h1 := H.2 j (ready_mono hj hji)
   obtain ⟨hjun, oj, hoj, hall⟩ := mem_ready.1 hj
   have hnot : ∀ e ∈ oj.after, Region.binds .any e = true → e.on ≠ i := fun e he hb heq => by
    have h1 := hall e he hb
    have h0 := (mem_ready.1 hr).1
    rw [heq] at h1
    rcases Nat.lt_or_ge i listed.size with h' | h'
    ·simp [h'] at h0 h1; rw [h0] at h1; cases h1
    ·simp [Array.getElem?_eq_none h'] at h1
   have h2 := wpOp_putD hoj (hfree j oj hoj hji hjun hnot) (hg j oj hoj) (fun cs b => hsel i oi cs b hi) (fun cs b => hsel j oj cs b hoj) hQ hy h1
   have hfree' : ∀ k ok, ops[k]? = some ok → k ≠ i → (listed.setIfInBounds j true).getD k true = false →
     (∀ e ∈ ok.after, Region.binds .any e = true → e.on ≠ i) → oi.apart ops ok = true := fun k ok hk hki hun hno => by
    refine hfree k ok hk hki ?_ hno
    by_cases hjk : j = k
    ·subst hjk; exact hjun
    ·rw [getD_set_ne true hjk] at hun; exact hun
   refine wpOp_mono (fun a' w' h3 => ?_) h2
   have h4 := h3.2.1
   rw [Array.setIfInBounds_comm _ _ (Ne.symm hji)] at h4
   have h5 := hSi _ _ h4
   refine ⟨h5, ih (listed.setIfInBounds j true) a' w' hfree' (hd.set hj) (ready_mono hr (Ne.symm hji)) h3.1 h5 ?_⟩
   rw [Array.setIfInBounds_comm _ _ hji]
   exact h3.2.2
def downB (ops : Array Oper) (listed : Array Bool) : Bool := (List.range ops.size).all fun j => !listed.getD j false || (match ops[j]? with | some p => p.after.all (fun e : Edge => !Region.binds .any e || listed.getD e.on false) | none => true)
theorem downB_spec {listed : Array Bool} (h : downB ops listed = true) : Down ops listed := by
 intro j p hp hj e he hb
 have hlt : j < ops.size := (Array.getElem?_eq_some_iff.1 hp).1
 have := List.all_eq_true.1 h j (List.mem_range.2 hlt)
 rw [hj, hp] at this
 simp only [Bool.not_true, Bool.false_or] at this
 have := Array.all_eq_true_iff_forall_mem.1 this e he
 rw [hb] at this
 simpa using this
def noGuards (ops : Array Oper) : Bool := ops.all fun o => o.guard.isNone
theorem noGuards_spec (h : noGuards ops = true) (j : Nat) (o : Oper) (ho : ops[j]? = some o) : o.guard = none := by
 have := Array.all_eq_true_iff_forall_mem.1 h o (Array.mem_of_getElem? ho)
 simpa using this
theorem blocked {L : Array Bool} {i j : Nat} (hd : Down ops L) (hL : L.getD i true = false) (hj : opAwaits ops j i = true) : L.getD j false = false := by
 cases hb : L.getD j false with
 | false => rfl
 | true =>
  exfalso
  unfold opAwaits at hj
  cases ho : ops[j]? with
  | none => rw [ho] at hj; cases hj
  | some p =>
   rw [ho] at hj
   obtain ⟨e, he, hbn, rfl⟩ := awaits_spec hj
   have h1 := hd j p ho hb e he hbn
   rw [Array.getD_eq_getD_getElem?] at h1 hL
   cases hl : L[e.on]? with
   | none => rw [hl] at h1; cases h1
   | some b =>
    rw [hl] at h1 hL
    simp only [Option.getD_some] at h1 hL
    rw [h1] at hL
    cases hL
theorem wpAnyD_take {i : Nat} {oi : Oper} {v : Value} {fuel : Nat} {listed : Array Bool} {a : Act} {w : World} (hi : ops[i]? = some oi) (hs : Region.noSelect ops = true) (hg : noGuards ops = true) (hf : Region.free .any ops listed i = true) (hr : (Region.ready .any ops listed).contains i = true)
  (hQ : ∀ c a w, Q (.panic c) (a.put oi.dst v) w → Q (.panic c) a w) (hSi : ∀ L w, S (L.setIfInBounds i true) w ↔ S L w) (hd : downB ops listed = true) (hS : S listed w) (hy : YieldsD P ops S i oi v a)
  (h : S (listed.setIfInBounds i true) w → wpAnyD P ops Q S fuel (listed.setIfInBounds i true) (a.put oi.dst v) w) : wpAnyD P ops Q S (fuel + 1) listed a w :=
 wpAnyD_first hi (Region.noSelect_spec hs) (noGuards_spec hg) hQ (fun L w => (hSi L w).1) (fun L w => (hSi L w).2) fuel listed a w (Region.free_spec hi hf) (downB_spec hd) (by simpa using hr) hy hS (h ((hSi _ _).2 hS))
theorem wpAnyD_one {i : Nat} {o : Oper} {fuel : Nat} {listed : Array Bool} {a : Act} {w : World} (hr : Region.ready .any ops listed = [i]) (ho : ops[i]? = some o) (hg : noGuards ops = true)
  (h : ∀ K : Act → World → Prop, Shut (∀ a w, S (listed.setIfInBounds i true) w → (S (listed.setIfInBounds i true) w → wpAnyD P ops Q S fuel (listed.setIfInBounds i true) a w) → K a w) → Oper.wp P o a w K Q) : wpAnyD P ops Q S (fuel + 1) listed a w := by
 refine ⟨fun h0 => (by rw [hr] at h0; cases h0), fun j hj => ?_⟩
 rw [hr] at hj
 obtain rfl := List.mem_singleton.1 hj
 unfold wpOp
 simp only [ho, wanted_free (noGuards_spec hg _ o ho), if_true]
 exact .inl (h _ (fun a w h1 h2 => ⟨h1, h2 h1⟩))
theorem wpAnyD_done {listed : Array Bool} {a : Act} {w : World} (hr : Region.ready .any ops listed = []) (h : Q .normal a w) : ∀ fuel, wpAnyD P ops Q S fuel listed a w
 | 0 => ⟨hr, h⟩
 | _ + 1 => ⟨fun _ => h, by rw [hr]; simp⟩
theorem wp_region_D {id : Nat} {a : Act} {w : World} (hm : P.follows .mixedOrders = true) (hS : S (Array.replicate ops.size false) w.drew)
  (h : S (Array.replicate ops.size false) w.drew → wpAnyD P ops Q S ops.size (Array.replicate ops.size false) a w.drew) : (Code.region id ops true).wp P Q a w :=
 wp_region_any hm (wpAny_of_D _ _ _ _ (h hS))
end
end Go.Proofs.YtoealjcjpjapkaaGreatDoor
