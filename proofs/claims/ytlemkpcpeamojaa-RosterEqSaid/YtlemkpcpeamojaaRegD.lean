/-
  A region that draws its order: what turns nothing is taken first, under a condition that is keyed by what has come up.
-/
import Derived.Test.YtlemkpcpeamojaaRegLast
namespace Go.Proofs.Ytlemkpcpeamojaa
open Go.RowKit

section
variable {P : Program} {ops : Array Oper} {Q : Exit → Act → World → Prop} {S : Array Bool → World → Prop}

/-- It yields v, by itself or by a call, and turns nothing. -/
def RunsTo (P : Program) (o : Oper) (v : Value) (a : Act) (w : World) : Prop :=
  (execOp a.eval o).run P w = .ok (.value v) w ∨ ∃ f args, (execOp a.eval o).run P w = .ok (.enter f args) w ∧ Calls P f args w fun e w' => e = .returned v ∧ w = w'

def YieldsD (P : Program) (ops : Array Oper) (S : Array Bool → World → Prop) (i : Nat) (o : Oper) (v : Value) (a : Act) : Prop :=
  o.guard = none ∧ ∀ L w, L.getD i true = false → Down ops L → S L w → RunsTo P o v a w

theorem RunsTo.wp {o : Oper} {v : Value} {a : Act} {w : World} (h : RunsTo P o v a w) {K : Act → World → Prop} (hk : K (a.put o.dst v) w) : Oper.wp P o a w K Q := by
  unfold Oper.wp
  rcases h with h | ⟨f, args, h, hc⟩
  · rw [h]; exact hk
  · rw [h]
    refine Calls.mono hc fun e w' he => ?_
    obtain ⟨rfl, rfl⟩ := he
    exact hk

theorem wanted_free {o : Oper} (h : o.guard = none) (f : Nat → Option Bool) : Region.wanted o f = true := by
  unfold Region.wanted
  rw [h]

theorem YieldsD.wpOp {i : Nat} {o : Oper} {v : Value} {a : Act} (hi : ops[i]? = some o) (hy : YieldsD P ops S i o v a) {L : Array Bool} {w : World} (h1 : L.getD i true = false) (h2 : Down ops L) (h3 : S L w)
    {K : Act → World → Prop} (h : K (a.put o.dst v) w) : wpOp P ops Q i K a w := by
  unfold Go.wpOp
  simp only [hi, wanted_free hy.1, if_true]
  exact .inl ((hy.2 L w h1 h2 h3).wp h)

theorem wpOp_putD {i j : Nat} {oi oj : Oper} {v : Value} (hj : ops[j]? = some oj) (hap : oi.apart ops oj = true) (hgj : oj.guard = none)
    (hsi : ∀ cs b, oi.op ≠ .select cs b) (hsj : ∀ cs b, oj.op ≠ .select cs b)
    (hQ : ∀ c a w, Q (.panic c) (a.put oi.dst v) w → Q (.panic c) a w) {K : Act → World → Prop} {a : Act} {w : World}
    (hy : YieldsD P ops S i oi v a) (h : wpOp P ops Q j K (a.put oi.dst v) w) :
    wpOp P ops Q j (fun a' w' => YieldsD P ops S i oi v a' ∧ K (a'.put oi.dst v) w') a w := by
  obtain ⟨h1, h2, h3⟩ := Oper.apart_spec hap
  have same : ∀ {a a' : Act}, YieldsD P ops S i oi v a → execOp a'.eval oi = execOp a.eval oi → YieldsD P ops S i oi v a' := fun {a a'} hy he => ⟨hy.1, fun L w g1 g2 g3 => by
    have := hy.2 L w g1 g2 g3
    unfold RunsTo at *
    rw [he]
    exact this⟩
  have keep : ∀ (a : Act), YieldsD P ops S i oi v a → ∀ u, YieldsD P ops S i oi v (a.put oj.dst u) := fun a hy u => same hy (execOp_put oi hsi a oj.dst u h3)
  have keepD : ∀ d, YieldsD P ops S i oi v { a with defers := d :: a.defers } := fun d => same hy rfl
  unfold Go.wpOp at *
  simp only [hj, wanted_free hgj, if_true] at *
  rcases h with h | ⟨hasks, hlets⟩
  case inr => exact .inr ⟨by unfold Oper.asks at *; rw [execOp_put oj hsj a oi.dst v h1] at hasks; exact hasks, hlets⟩
  refine .inl ?_
  unfold Oper.wp at *
  rw [execOp_put oj hsj a oi.dst v h1] at h
  generalize (execOp a.eval oj).run P w = r at *
  cases r with
  | ok n w' =>
    cases n <;> simp only [Oper.upon] at h ⊢
    case value u => exact ⟨keep a hy u, by rw [← Act.put_comm a v u h2]; exact h⟩
    case skip => exact ⟨keep a hy _, by rw [← Act.put_comm a v undef h2]; exact h⟩
    case defer d =>
      refine ⟨keep _ (keepD d) _, ?_⟩
      rw [← Act.put_comm _ v undef h2, ← Act.put_defers]
      exact h
    case enter f args =>
      refine Calls.mono h fun e w'' he => ?_
      cases e with
      | returned u => exact ⟨keep a hy u, by rw [← Act.put_comm a v u h2]; exact he⟩
      | panicked c => exact hQ _ _ _ he
      | outgrown => exact he
    case row row args => exact Rows.mono h fun u w'' he => ⟨keep a hy u, by rw [← Act.put_comm a v u h2]; exact he⟩
  | halt x w' =>
    cases x <;> simp only [Oper.upon] at h ⊢
    case panic u => exact hQ _ _ _ h

/-- Whatever order is picked; S behind every operation. -/
def wpAnyD (P : Program) (ops : Array Oper) (Q : Exit → Act → World → Prop) (S : Array Bool → World → Prop) : Nat → Array Bool → Act → World → Prop
  | 0, listed, a, w => Region.ready .any ops listed = [] ∧ Q .normal a w
  | fuel + 1, listed, a, w =>
    (Region.ready .any ops listed = [] → Q .normal a w) ∧
    ∀ i ∈ Region.ready .any ops listed, wpOp P ops Q i (fun a' w' => S (listed.setIfInBounds i true) w' ∧ wpAnyD P ops Q S fuel (listed.setIfInBounds i true) a' w') a w

theorem wpAny_of_D : ∀ (fuel : Nat) (listed : Array Bool) (a : Act) (w : World), wpAnyD P ops Q S fuel listed a w → wpAny P .any ops Q fuel listed a w
  | 0, _, _, _, h => h
  | fuel + 1, _, _, _, h => ⟨h.1, fun i hi => wpOp_mono (fun a' w' h' => wpAny_of_D fuel _ a' w' h'.2) (h.2 i hi)⟩

theorem Down.set {listed : Array Bool} {j : Nat} (hd : Down ops listed) (hj : j ∈ Region.ready .any ops listed) : Down ops (listed.setIfInBounds j true) := by
  obtain ⟨_, q, hq, hdeps⟩ := mem_ready.1 hj
  have mono : ∀ k, listed.getD k false = true → (listed.setIfInBounds j true).getD k false = true := by
    intro k hk
    rw [Array.getD_eq_getD_getElem?] at hk ⊢
    rw [Array.getElem?_setIfInBounds]
    by_cases hjk : j = k
    · subst hjk
      rw [if_pos rfl]
      cases hl : listed[j]? with
      | none => rw [hl] at hk; cases hk
      | some b => rw [if_pos (Array.getElem?_eq_some_iff.1 hl).1]; rfl
    · rw [if_neg hjk]
      exact hk
  intro k p hp hk e he hb
  by_cases hjk : j = k
  · subst hjk
    rw [hq] at hp
    obtain rfl := Option.some.inj hp
    exact mono _ (hdeps e he hb)
  · refine mono _ (hd k p hp ?_ e he hb)
    rw [Array.getD_eq_getD_getElem?] at hk ⊢
    rwa [Array.getElem?_setIfInBounds_ne hjk] at hk

/-- **It may be taken first.** -/
theorem wpAnyD_first {i : Nat} {oi : Oper} {v : Value} (hi : ops[i]? = some oi) (hsel : ∀ (j : Nat) (o : Oper) cs b, ops[j]? = some o → o.op ≠ .select cs b) (hg : ∀ (j : Nat) (o : Oper), ops[j]? = some o → o.guard = none)
    (hQ : ∀ c a w, Q (.panic c) (a.put oi.dst v) w → Q (.panic c) a w) (hSi : ∀ L w, S (L.setIfInBounds i true) w → S L w) (hSi' : ∀ L w, S L w → S (L.setIfInBounds i true) w) :
    ∀ (fuel : Nat) (listed : Array Bool) (a : Act) (w : World),
      (∀ j oj, ops[j]? = some oj → j ≠ i → listed.getD j true = false → (∀ e ∈ oj.after, Region.binds .any e = true → e.on ≠ i) → oi.apart ops oj = true) → Down ops listed →
      i ∈ Region.ready .any ops listed → YieldsD P ops S i oi v a → S listed w →
      wpAnyD P ops Q S fuel (listed.setIfInBounds i true) (a.put oi.dst v) w → wpAnyD P ops Q S (fuel + 1) listed a w := by
  intro fuel
  induction fuel with
  | zero =>
    intro listed a w _ hd hr hy hS H
    refine ⟨fun h => (by rw [h] at hr; cases hr), fun j hj => ?_⟩
    by_cases hji : j = i
    · subst hji; exact hy.wpOp hi (mem_ready.1 hr).1 hd hS ⟨hSi' _ _ hS, H⟩
    · have := ready_mono hj hji
      rw [H.1] at this
      cases this
  | succ fuel ih =>
    intro listed a w hfree hd hr hy hS H
    refine ⟨fun h => (by rw [h] at hr; cases hr), fun j hj => ?_⟩
    by_cases hji : j = i
    · subst hji; exact hy.wpOp hi (mem_ready.1 hr).1 hd hS ⟨hSi' _ _ hS, H⟩
    · have h1 := H.2 j (ready_mono hj hji)
      obtain ⟨hjun, oj, hoj, hall⟩ := mem_ready.1 hj
      have hnot : ∀ e ∈ oj.after, Region.binds .any e = true → e.on ≠ i := fun e he hb heq => by
        have h1 := hall e he hb
        have h0 := (mem_ready.1 hr).1
        rw [heq] at h1
        rcases Nat.lt_or_ge i listed.size with h' | h'
        · simp [h'] at h0 h1; rw [h0] at h1; cases h1
        · simp [Array.getElem?_eq_none h'] at h1
      have h2 := wpOp_putD hoj (hfree j oj hoj hji hjun hnot) (hg j oj hoj) (fun cs b => hsel i oi cs b hi) (fun cs b => hsel j oj cs b hoj) hQ hy h1
      have hfree' : ∀ k ok, ops[k]? = some ok → k ≠ i → (listed.setIfInBounds j true).getD k true = false →
          (∀ e ∈ ok.after, Region.binds .any e = true → e.on ≠ i) → oi.apart ops ok = true := fun k ok hk hki hun hno => by
        refine hfree k ok hk hki ?_ hno
        by_cases hjk : j = k
        · subst hjk; exact hjun
        · rw [getD_set_ne true hjk] at hun; exact hun
      refine wpOp_mono (fun a' w' h3 => ?_) h2
      have h4 := h3.2.1
      rw [Array.setIfInBounds_comm _ _ (Ne.symm hji)] at h4
      have h5 := hSi _ _ h4
      refine ⟨h5, ih (listed.setIfInBounds j true) a' w' hfree' (hd.set hj) (ready_mono hr (Ne.symm hji)) h3.1 h5 ?_⟩
      rw [Array.setIfInBounds_comm _ _ hji]
      exact h3.2.2

/- The moves of a walk. -/
def downB (ops : Array Oper) (listed : Array Bool) : Bool := (List.range ops.size).all fun j => !listed.getD j false || (match ops[j]? with | some p => p.after.all (fun e : Edge => !Region.binds .any e || listed.getD e.on false) | none => true)

theorem downB_spec {listed : Array Bool} (h : downB ops listed = true) : Down ops listed := by
  intro j p hp hj e he hb
  have hlt : j < ops.size := (Array.getElem?_eq_some_iff.1 hp).1
  have := List.all_eq_true.1 h j (List.mem_range.2 hlt)
  rw [hj, hp] at this
  simp only [Bool.not_true, Bool.false_or] at this
  have := Array.all_eq_true_iff_forall_mem.1 this e he
  rw [hb] at this
  simpa using this

def noGuards (ops : Array Oper) : Bool := ops.all fun o => o.guard.isNone

theorem noGuards_spec (h : noGuards ops = true) (j : Nat) (o : Oper) (ho : ops[j]? = some o) : o.guard = none := by
  have := Array.all_eq_true_iff_forall_mem.1 h o (Array.mem_of_getElem? ho)
  simpa using this

/-- What waits for one that has not come up has not come up. -/
theorem blocked {L : Array Bool} {i j : Nat} (hd : Down ops L) (hL : L.getD i true = false) (hj : opAwaits ops j i = true) : L.getD j false = false := by
  cases hb : L.getD j false with
  | false => rfl
  | true =>
    exfalso
    unfold opAwaits at hj
    cases ho : ops[j]? with
    | none => rw [ho] at hj; cases hj
    | some p =>
      rw [ho] at hj
      obtain ⟨e, he, hbn, rfl⟩ := awaits_spec hj
      have h1 := hd j p ho hb e he hbn
      rw [Array.getD_eq_getD_getElem?] at h1 hL
      cases hl : L[e.on]? with
      | none => rw [hl] at h1; cases h1
      | some b =>
        rw [hl] at h1 hL
        simp only [Option.getD_some] at h1 hL
        rw [h1] at hL
        cases hL

theorem wpAnyD_take {i : Nat} {oi : Oper} {v : Value} {fuel : Nat} {listed : Array Bool} {a : Act} {w : World} (hi : ops[i]? = some oi) (hs : Region.noSelect ops = true) (hg : noGuards ops = true) (hf : Region.free .any ops listed i = true) (hr : (Region.ready .any ops listed).contains i = true)
    (hQ : ∀ c a w, Q (.panic c) (a.put oi.dst v) w → Q (.panic c) a w) (hSi : ∀ L w, S (L.setIfInBounds i true) w ↔ S L w) (hd : downB ops listed = true) (hS : S listed w) (hy : YieldsD P ops S i oi v a)
    (h : S (listed.setIfInBounds i true) w → wpAnyD P ops Q S fuel (listed.setIfInBounds i true) (a.put oi.dst v) w) : wpAnyD P ops Q S (fuel + 1) listed a w :=
  wpAnyD_first hi (Region.noSelect_spec hs) (noGuards_spec hg) hQ (fun L w => (hSi L w).1) (fun L w => (hSi L w).2) fuel listed a w (Region.free_spec hi hf) (downB_spec hd) (by simpa using hr) hy hS (h ((hSi _ _).2 hS))

theorem wpAnyD_one {i : Nat} {o : Oper} {fuel : Nat} {listed : Array Bool} {a : Act} {w : World} (hr : Region.ready .any ops listed = [i]) (ho : ops[i]? = some o) (hg : noGuards ops = true)
    (h : ∀ K : Act → World → Prop, Shut (∀ a w, S (listed.setIfInBounds i true) w → (S (listed.setIfInBounds i true) w → wpAnyD P ops Q S fuel (listed.setIfInBounds i true) a w) → K a w) → Oper.wp P o a w K Q) : wpAnyD P ops Q S (fuel + 1) listed a w := by
  refine ⟨fun h0 => (by rw [hr] at h0; cases h0), fun j hj => ?_⟩
  rw [hr] at hj
  obtain rfl := List.mem_singleton.1 hj
  unfold wpOp
  simp only [ho, wanted_free (noGuards_spec hg _ o ho), if_true]
  exact .inl (h _ (fun a w h1 h2 => ⟨h1, h2 h1⟩))

theorem wpAnyD_done {listed : Array Bool} {a : Act} {w : World} (hr : Region.ready .any ops listed = []) (h : Q .normal a w) : ∀ fuel, wpAnyD P ops Q S fuel listed a w
  | 0 => ⟨hr, h⟩
  | _ + 1 => ⟨fun _ => h, by rw [hr]; simp⟩

theorem wp_region_D {id : Nat} {a : Act} {w : World} (hm : P.follows .mixedOrders = true) (hS : S (Array.replicate ops.size false) w.drew)
    (h : S (Array.replicate ops.size false) w.drew → wpAnyD P ops Q S ops.size (Array.replicate ops.size false) a w.drew) : (Code.region id ops true).wp P Q a w :=
  wp_region_any hm (wpAny_of_D _ _ _ _ (h hS))

end
end Go.Proofs.Ytlemkpcpeamojaa
