/-
  A region in which loads and calls come first; the law's do.
-/
import Derived.Test.YtaekieoingflaaaGreatDoorRfA
import Derived.Test.YtaekieoingflaaaGreatDoorRfC
import Derived.Test.YtaekieoingflaaaGreatDoorLaw1
namespace Go.Proofs.YtaekieoingflaaaGreatDoor

section
variable {P : Program} {ops : Array Oper} {Q : Exit → Act → World → Prop} {S : Array Bool → World → Prop}

/-- It yields v, by itself or by a call, and turns nothing. -/
def RunsTo (P : Program) (o : Oper) (v : Value) (a : Act) (w : World) : Prop :=
  (execOp a.eval o).run P w = .ok (.value v) w ∨ ∃ f args, (execOp a.eval o).run P w = .ok (.enter f args) w ∧ Calls P f args w fun e w' => e = .returned v ∧ w = w'

def YieldsD (P : Program) (ops : Array Oper) (S : Array Bool → World → Prop) (i : Nat) (o : Oper) (v : Value) (a : Act) : Prop :=
  o.guard = none ∧ ∀ L w, L.getD i true = false → Down ops L → S L w → RunsTo P o v a w

theorem RunsTo.wp {o : Oper} {v : Value} {a : Act} {w : World} (h : RunsTo P o v a w) {K : Act → World → Prop} (hk : K (a.put o.dst v) w) : Oper.wp P o a w K Q := by
  unfold Oper.wp
  rcases h with h | ⟨f, args, h, hc⟩
  · rw [h]; exact hk
  · rw [h]
    refine Calls.mono hc fun e w' he => ?_
    obtain ⟨rfl, rfl⟩ := he
    exact hk

theorem wanted_free {o : Oper} (h : o.guard = none) (f : Nat → Option Bool) : Region.wanted o f = true := by
  unfold Region.wanted
  rw [h]

theorem YieldsD.wpOp {i : Nat} {o : Oper} {v : Value} {a : Act} (hi : ops[i]? = some o) (hy : YieldsD P ops S i o v a) {L : Array Bool} {w : World} (h1 : L.getD i true = false) (h2 : Down ops L) (h3 : S L w)
    {K : Act → World → Prop} (h : K (a.put o.dst v) w) : wpOp P ops Q i K a w := by
  unfold Go.wpOp
  simp only [hi, wanted_free hy.1, if_true]
  exact .inl ((hy.2 L w h1 h2 h3).wp h)

theorem wpOp_putD {i j : Nat} {oi oj : Oper} {v : Value} (hj : ops[j]? = some oj) (hap : oi.apart ops oj = true) (hgj : oj.guard = none)
    (hsi : ∀ cs b, oi.op ≠ .select cs b) (hsj : ∀ cs b, oj.op ≠ .select cs b)
    (hQ : ∀ c a w, Q (.panic c) (a.put oi.dst v) w → Q (.panic c) a w) {K : Act → World → Prop} {a : Act} {w : World}
    (hy : YieldsD P ops S i oi v a) (h : wpOp P ops Q j K (a.put oi.dst v) w) :
    wpOp P ops Q j (fun a' w' => YieldsD P ops S i oi v a' ∧ K (a'.put oi.dst v) w') a w := by
  obtain ⟨h1, h2, h3⟩ := Oper.apart_spec hap
  have same : ∀ {a a' : Act}, YieldsD P ops S i oi v a → execOp a'.eval oi = execOp a.eval oi → YieldsD P ops S i oi v a' := fun {a a'} hy he => ⟨hy.1, fun L w g1 g2 g3 => by
    have := hy.2 L w g1 g2 g3
    unfold RunsTo at *
    rw [he]
    exact this⟩
  have keep : ∀ (a : Act), YieldsD P ops S i oi v a → ∀ u, YieldsD P ops S i oi v (a.put oj.dst u) := fun a hy u => same hy (execOp_put oi hsi a oj.dst u h3)
  have keepD : ∀ d, YieldsD P ops S i oi v { a with defers := d :: a.defers } := fun d => same hy rfl
  unfold Go.wpOp at *
  simp only [hj, wanted_free hgj, if_true] at *
  rcases h with h | ⟨hasks, hlets⟩
  case inr => exact .inr ⟨by unfold Oper.asks at *; rw [execOp_put oj hsj a oi.dst v h1] at hasks; exact hasks, hlets⟩
  refine .inl ?_
  unfold Oper.wp at *
  rw [execOp_put oj hsj a oi.dst v h1] at h
  generalize (execOp a.eval oj).run P w = r at *
  cases r with
  | ok n w' =>
    cases n <;> simp only [Oper.upon] at h ⊢
    case value u => exact ⟨keep a hy u, by rw [← Act.put_comm a v u h2]; exact h⟩
    case skip => exact ⟨keep a hy _, by rw [← Act.put_comm a v undef h2]; exact h⟩
    case defer d =>
      refine ⟨keep _ (keepD d) _, ?_⟩
      rw [← Act.put_comm _ v undef h2, ← Act.put_defers]
      exact h
    case enter f args =>
      refine Calls.mono h fun e w'' he => ?_
      cases e with
      | returned u => exact ⟨keep a hy u, by rw [← Act.put_comm a v u h2]; exact he⟩
      | panicked c => exact hQ _ _ _ he
      | outgrown => exact he
    case row row args => exact Rows.mono h fun u w'' he => ⟨keep a hy u, by rw [← Act.put_comm a v u h2]; exact he⟩
  | halt x w' =>
    cases x <;> simp only [Oper.upon] at h ⊢
    case panic u => exact hQ _ _ _ h

/-- Whatever order is picked; S behind every operation. -/
def wpAnyD (P : Program) (ops : Array Oper) (Q : Exit → Act → World → Prop) (S : Array Bool → World → Prop) : Nat → Array Bool → Act → World → Prop
  | 0, listed, a, w => Region.ready .any ops listed = [] ∧ Q .normal a w
  | fuel + 1, listed, a, w =>
    (Region.ready .any ops listed = [] → Q .normal a w) ∧
    ∀ i ∈ Region.ready .any ops listed, wpOp P ops Q i (fun a' w' => S (listed.setIfInBounds i true) w' ∧ wpAnyD P ops Q S fuel (listed.setIfInBounds i true) a' w') a w

theorem wpAny_of_D : ∀ (fuel : Nat) (listed : Array Bool) (a : Act) (w : World), wpAnyD P ops Q S fuel listed a w → wpAny P .any ops Q fuel listed a w
  | 0, _, _, _, h => h
  | fuel + 1, _, _, _, h => ⟨h.1, fun i hi => wpOp_mono (fun a' w' h' => wpAny_of_D fuel _ a' w' h'.2) (h.2 i hi)⟩

theorem Down.set {listed : Array Bool} {j : Nat} (hd : Down ops listed) (hj : j ∈ Region.ready .any ops listed) : Down ops (listed.setIfInBounds j true) := by
  obtain ⟨_, q, hq, hdeps⟩ := mem_ready.1 hj
  have mono : ∀ k, listed.getD k false = true → (listed.setIfInBounds j true).getD k false = true := by
    intro k hk
    rw [Array.getD_eq_getD_getElem?] at hk ⊢
    rw [Array.getElem?_setIfInBounds]
    by_cases hjk : j = k
    · subst hjk
      rw [if_pos rfl]
      cases hl : listed[j]? with
      | none => rw [hl] at hk; cases hk
      | some b => rw [if_pos (Array.getElem?_eq_some_iff.1 hl).1]; rfl
    · rw [if_neg hjk]
      exact hk
  intro k p hp hk e he hb
  by_cases hjk : j = k
  · subst hjk
    rw [hq] at hp
    obtain rfl := Option.some.inj hp
    exact mono _ (hdeps e he hb)
  · refine mono _ (hd k p hp ?_ e he hb)
    rw [Array.getD_eq_getD_getElem?] at hk ⊢
    rwa [Array.getElem?_setIfInBounds_ne hjk] at hk

/-- **It may be taken first.** -/
theorem wpAnyD_first {i : Nat} {oi : Oper} {v : Value} (hi : ops[i]? = some oi) (hsel : ∀ (j : Nat) (o : Oper) cs b, ops[j]? = some o → o.op ≠ .select cs b) (hg : ∀ (j : Nat) (o : Oper), ops[j]? = some o → o.guard = none)
    (hQ : ∀ c a w, Q (.panic c) (a.put oi.dst v) w → Q (.panic c) a w) (hSi : ∀ L w, S (L.setIfInBounds i true) w → S L w) (hSi' : ∀ L w, S L w → S (L.setIfInBounds i true) w) :
    ∀ (fuel : Nat) (listed : Array Bool) (a : Act) (w : World),
      (∀ j oj, ops[j]? = some oj → j ≠ i → listed.getD j true = false → (∀ e ∈ oj.after, Region.binds .any e = true → e.on ≠ i) → oi.apart ops oj = true) → Down ops listed →
      i ∈ Region.ready .any ops listed → YieldsD P ops S i oi v a → S listed w →
      wpAnyD P ops Q S fuel (listed.setIfInBounds i true) (a.put oi.dst v) w → wpAnyD P ops Q S (fuel + 1) listed a w := by
  intro fuel
  induction fuel with
  | zero =>
    intro listed a w _ hd hr hy hS H
    refine ⟨fun h => (by rw [h] at hr; cases hr), fun j hj => ?_⟩
    by_cases hji : j = i
    · subst hji; exact hy.wpOp hi (mem_ready.1 hr).1 hd hS ⟨hSi' _ _ hS, H⟩
    · have := ready_mono hj hji
      rw [H.1] at this
      cases this
  | succ fuel ih =>
    intro listed a w hfree hd hr hy hS H
    refine ⟨fun h => (by rw [h] at hr; cases hr), fun j hj => ?_⟩
    by_cases hji : j = i
    · subst hji; exact hy.wpOp hi (mem_ready.1 hr).1 hd hS ⟨hSi' _ _ hS, H⟩
    · have h1 := H.2 j (ready_mono hj hji)
      obtain ⟨hjun, oj, hoj, hall⟩ := mem_ready.1 hj
      have hnot : ∀ e ∈ oj.after, Region.binds .any e = true → e.on ≠ i := fun e he hb heq => by
        have h1 := hall e he hb
        have h0 := (mem_ready.1 hr).1
        rw [heq] at h1
        rcases Nat.lt_or_ge i listed.size with h' | h'
        · simp [h'] at h0 h1; rw [h0] at h1; cases h1
        · simp [Array.getElem?_eq_none h'] at h1
      have h2 := wpOp_putD hoj (hfree j oj hoj hji hjun hnot) (hg j oj hoj) (fun cs b => hsel i oi cs b hi) (fun cs b => hsel j oj cs b hoj) hQ hy h1
      have hfree' : ∀ k ok, ops[k]? = some ok → k ≠ i → (listed.setIfInBounds j true).getD k true = false →
          (∀ e ∈ ok.after, Region.binds .any e = true → e.on ≠ i) → oi.apart ops ok = true := fun k ok hk hki hun hno => by
        refine hfree k ok hk hki ?_ hno
        by_cases hjk : j = k
        · subst hjk; exact hjun
        · rw [getD_set_ne true hjk] at hun; exact hun
      refine wpOp_mono (fun a' w' h3 => ?_) h2
      have h4 := h3.2.1
      rw [Array.setIfInBounds_comm _ _ (Ne.symm hji)] at h4
      have h5 := hSi _ _ h4
      refine ⟨h5, ih (listed.setIfInBounds j true) a' w' hfree' (hd.set hj) (ready_mono hr (Ne.symm hji)) h3.1 h5 ?_⟩
      rw [Array.setIfInBounds_comm _ _ hji]
      exact h3.2.2

/- The moves of a walk. -/
def downB (ops : Array Oper) (listed : Array Bool) : Bool := (List.range ops.size).all fun j => !listed.getD j false || (match ops[j]? with | some p => p.after.all (fun e : Edge => !Region.binds .any e || listed.getD e.on false) | none => true)

theorem downB_spec {listed : Array Bool} (h : downB ops listed = true) : Down ops listed := by
  intro j p hp hj e he hb
  have hlt : j < ops.size := (Array.getElem?_eq_some_iff.1 hp).1
  have := List.all_eq_true.1 h j (List.mem_range.2 hlt)
  rw [hj, hp] at this
  simp only [Bool.not_true, Bool.false_or] at this
  have := Array.all_eq_true_iff_forall_mem.1 this e he
  rw [hb] at this
  simpa using this

def noGuards (ops : Array Oper) : Bool := ops.all fun o => o.guard.isNone

theorem noGuards_spec (h : noGuards ops = true) (j : Nat) (o : Oper) (ho : ops[j]? = some o) : o.guard = none := by
  have := Array.all_eq_true_iff_forall_mem.1 h o (Array.mem_of_getElem? ho)
  simpa using this

/-- What waits for one that has not come up has not come up. -/
theorem blocked {L : Array Bool} {i j : Nat} (hd : Down ops L) (hL : L.getD i true = false) (hj : opAwaits ops j i = true) : L.getD j false = false := by
  cases hb : L.getD j false with
  | false => rfl
  | true =>
    exfalso
    unfold opAwaits at hj
    cases ho : ops[j]? with
    | none => rw [ho] at hj; cases hj
    | some p =>
      rw [ho] at hj
      obtain ⟨e, he, hbn, rfl⟩ := awaits_spec hj
      have h1 := hd j p ho hb e he hbn
      rw [Array.getD_eq_getD_getElem?] at h1 hL
      cases hl : L[e.on]? with
      | none => rw [hl] at h1; cases h1
      | some b =>
        rw [hl] at h1 hL
        simp only [Option.getD_some] at h1 hL
        rw [h1] at hL
        cases hL

theorem wpAnyD_take {i : Nat} {oi : Oper} {v : Value} {fuel : Nat} {listed : Array Bool} {a : Act} {w : World} (hi : ops[i]? = some oi) (hs : Region.noSelect ops = true) (hg : noGuards ops = true) (hf : Region.free .any ops listed i = true) (hr : (Region.ready .any ops listed).contains i = true)
    (hQ : ∀ c a w, Q (.panic c) (a.put oi.dst v) w → Q (.panic c) a w) (hSi : ∀ L w, S (L.setIfInBounds i true) w ↔ S L w) (hd : downB ops listed = true) (hS : S listed w) (hy : YieldsD P ops S i oi v a)
    (h : S (listed.setIfInBounds i true) w → wpAnyD P ops Q S fuel (listed.setIfInBounds i true) (a.put oi.dst v) w) : wpAnyD P ops Q S (fuel + 1) listed a w :=
  wpAnyD_first hi (Region.noSelect_spec hs) (noGuards_spec hg) hQ (fun L w => (hSi L w).1) (fun L w => (hSi L w).2) fuel listed a w (Region.free_spec hi hf) (downB_spec hd) (by simpa using hr) hy hS (h ((hSi _ _).2 hS))

theorem wpAnyD_one {i : Nat} {o : Oper} {fuel : Nat} {listed : Array Bool} {a : Act} {w : World} (hr : Region.ready .any ops listed = [i]) (ho : ops[i]? = some o) (hg : noGuards ops = true)
    (h : ∀ K : Act → World → Prop, Shut (∀ a w, S (listed.setIfInBounds i true) w → (S (listed.setIfInBounds i true) w → wpAnyD P ops Q S fuel (listed.setIfInBounds i true) a w) → K a w) → Oper.wp P o a w K Q) : wpAnyD P ops Q S (fuel + 1) listed a w := by
  refine ⟨fun h0 => (by rw [hr] at h0; cases h0), fun j hj => ?_⟩
  rw [hr] at hj
  obtain rfl := List.mem_singleton.1 hj
  unfold wpOp
  simp only [ho, wanted_free (noGuards_spec hg _ o ho), if_true]
  exact .inl (h _ (fun a w h1 h2 => ⟨h1, h2 h1⟩))

theorem wpAnyD_done {listed : Array Bool} {a : Act} {w : World} (hr : Region.ready .any ops listed = []) (h : Q .normal a w) : ∀ fuel, wpAnyD P ops Q S fuel listed a w
  | 0 => ⟨hr, h⟩
  | _ + 1 => ⟨fun _ => h, by rw [hr]; simp⟩

theorem wp_region_D {id : Nat} {a : Act} {w : World} (hm : P.follows .mixedOrders = true) (hS : S (Array.replicate ops.size false) w.drew)
    (h : S (Array.replicate ops.size false) w.drew → wpAnyD P ops Q S ops.size (Array.replicate ops.size false) a w.drew) : (Code.region id ops true).wp P Q a w :=
  wp_region_any hm (wpAny_of_D _ _ _ _ (h hS))

end
end Go.Proofs.YtaekieoingflaaaGreatDoor

namespace Go.Proofs.YtaekieoingflaaaGreatDoor
open Go.RowKit Go.Maps Go.Proofs.MapD Go.Proofs.Chest

theorem heap_set {w : World} {A : Nat} {cur : Array Value} {t : TypeId} {fr : Nat × Nat} (h : w.heap[A]? = some (.cells cur t fr)) (j : Nat) (v : Value) : (w.setCell ⟨A, j, none⟩ v).heap[A]? = some (.cells (cur.setIfInBounds j v) t fr) := by
  have hlt := lt_of_block h
  have h' : w.heap[A] = .cells cur t fr := by simpa [Array.getElem?_eq_getElem hlt] using h
  show (w.heap.modify A _)[A]? = _
  rw [Array.getElem?_eq_getElem (by simpa using hlt), Array.getElem_modify_self, h']
  rfl

def obox (k n : Int) (a b s : ByteArray) : Obj := .cells #[.int .i64 k, .int .i64 n, .string a, .string b, .string s] 31 (0, 0)

theorem bx_cells {w0 w : World} {A : Nat} {k n : Int} {a b s : ByteArray} {L : List It} (h : Sp w0 w (bx A (obox k n a b s) :: L)) :
    w.cell? ⟨A, 0, none⟩ = some (.int .i64 k) ∧ w.cell? ⟨A, 1, none⟩ = some (.int .i64 n) ∧ w.cell? ⟨A, 2, none⟩ = some (.string a) ∧ w.cell? ⟨A, 3, none⟩ = some (.string b) ∧ w.cell? ⟨A, 4, none⟩ = some (.string s) := by
  obtain ⟨F, h1, _⟩ := h.get
  unfold obox at h1
  refine ⟨?_, ?_, ?_, ?_, ?_⟩
  · rw [cell_of_row w A 0 _ _ _ h1]; rfl
  · rw [cell_of_row w A 1 _ _ _ h1]; rfl
  · rw [cell_of_row w A 2 _ _ _ h1]; rfl
  · rw [cell_of_row w A 3 _ _ _ h1]; rfl
  · rw [cell_of_row w A 4 _ _ _ h1]; rfl

theorem bx_new {w0 w : World} {k n : Int} {a b s : ByteArray} {L : List It} (h : Sp w0 w L) : Sp w0 (w.alloc (.cells #[.int .i64 k, .int .i64 n, .string a, .string b, .string s] 31)) (bx w.heap.size (obox k n a b s) :: L) :=
  h.new ((Below.refl _ _).alloc (Nat.le_refl _) _) ⟨[w.heap.size], ⟨heap_alloc_new w _, rfl⟩, by simp⟩

theorem bx_set {w0 w : World} {A : Nat} {k n : Int} {a b s : ByteArray} {L : List It} (h : Sp w0 w (bx A (obox k n a b s) :: L)) (a' b' s' : ByteArray) :
    Sp w0 (((w.setCell ⟨A, 2, none⟩ (.string a')).setCell ⟨A, 3, none⟩ (.string b')).setCell ⟨A, 4, none⟩ (.string s')) (bx A (obox k n a' b' s') :: L) := by
  obtain ⟨F, ⟨h1, rfl⟩, _, kk⟩ := h.turn
  refine kk _ _ ⟨[A], ⟨heap_set (heap_set (heap_set h1 2 _) 3 _) 4 _, rfl⟩, fun k hk => .inl hk, ?_⟩
  exact (((Only.refl [A] w).setCell (.inl (by simp)) _).setCell (.inl (by simp)) _).setCell (.inl (by simp)) _

theorem bx_free {w0 w : World} {A : Nat} {k n : Int} {a b s : ByteArray} {L : List It} (h : Sp w0 w (bx A (obox k n a b s) :: L)) : w.frozen? ⟨A, 2, none⟩ = false ∧ w.frozen? ⟨A, 3, none⟩ = false ∧ w.frozen? ⟨A, 4, none⟩ = false := by
  obtain ⟨F, h1, _⟩ := h.get
  unfold obox at h1
  refine ⟨?_, ?_, ?_⟩ <;> (unfold World.frozen?; simp [h1])

set_option maxRecDepth 100000 in
set_option maxHeartbeats 8000000 in
theorem do_p {w0 w : World} {c d z : Nat} {st : St} {l : Rolls} (h : Sp w0 w [ch c st, rch d z l]) (hk : Like z st l) (hz : z ≤ 1048576) (hn : l.length ≤ 800000) (kind n : Int) (a b s : ByteArray) :
    Calls Tryz.prog 10 #[.pointer (some ⟨c, 0, none⟩), .pointer (some ⟨d, 0, none⟩), .agg #[.int .i64 kind, .int .i64 n, .string a, .string b, .string s]] w fun e w' =>
      ∃ c' d' st' l', e = .returned (.tuple #[.pointer (some ⟨c', 0, none⟩), .pointer (some ⟨d', 0, none⟩), .bool true]) ∧ Sp w0 w' [ch c' st', rch d' z l'] ∧ Like z st' l' ∧ l'.length ≤ l.length + 1 := by
  have C1 := Lib.hid (cut_any a 12)
  have C2 := Lib.hid (cut_any b 12)
  have C3 := Lib.hid (cut_any s 60)
  have sz1 := cutS_size a 12
  have sz2 := cutS_size b 12
  have sz3 := cutS_size s 60
  have H := Lib.hid (bx_new (k := kind) (n := n) (a := a) (b := b) (s := s) h)
  have HK := Lib.hid hk
  generalize cutS a 12 = a' at *
  generalize cutS b 12 = b' at *
  generalize cutS s 60 = s' at *
  clear h hk
  go_enter Tryz.func10, Tryz.ntmps10
  go_wp2_with fail
  obtain ⟨V, hV⟩ : ∃ V, w.alloc (.cells #[.int .i64 kind, .int .i64 n, .string a, .string b, .string s] 31) = V := ⟨_, rfl⟩
  obtain ⟨A, hA⟩ : ∃ A, w.heap.size = A := ⟨_, rfl⟩
  rw [hV, hA] at H
  rw [hV]
  simp only [hA]
  clear hV hA
  obtain ⟨e0, e1, e2, e3, e4⟩ := bx_cells H.out
  obtain ⟨f2, f3, f4⟩ := bx_free H.out
  have g3 : V.drew.cell? ⟨A, 3, none⟩ = some (.string b) := e3
  have g4 : V.drew.cell? ⟨A, 4, none⟩ = some (.string s) := e4
  have k3 : ∀ x : Value, (V.drew.setCell ⟨A, 2, none⟩ x).cell? ⟨A, 3, none⟩ = some (.string b) := fun x => by rw [cell_other _ _ (fun e => by omega)]; exact g3
  have k4 : ∀ x : Value, (V.drew.setCell ⟨A, 2, none⟩ x).cell? ⟨A, 4, none⟩ = some (.string s) := fun x => by rw [cell_other _ _ (fun e => by omega)]; exact g4
  have m4 : ∀ x y : Value, ((V.drew.setCell ⟨A, 2, none⟩ x).setCell ⟨A, 3, none⟩ y).cell? ⟨A, 4, none⟩ = some (.string s) := fun x y => by rw [cell_other _ _ (fun e => by omega)]; exact k4 x
  refine wp_region_D (S := fun L W => (L.getD 10 false = false → W.cell? ⟨A, 2, none⟩ = some (.string a)) ∧ (L.getD 12 false = false → W.cell? ⟨A, 3, none⟩ = some (.string b)) ∧ (L.getD 14 false = false → W.cell? ⟨A, 4, none⟩ = some (.string s))) (by kernel_rfl) ⟨fun _ => e2, fun _ => e3, fun _ => e4⟩ (fun hS0 => ?_)
  refine wpAnyD_take (i := 0) (v := Value.pointer (some ⟨A, 2, none⟩)) rfl (by kernel_rfl) (by kernel_rfl) (by kernel_rfl) (by kernel_rfl) (fun _ _ _ h => h) (fun L w => by simp only [getD_set_ne false (by decide : (0 : Nat) ≠ 10), getD_set_ne false (by decide : (0 : Nat) ≠ 12), getD_set_ne false (by decide : (0 : Nat) ≠ 14)]) (by kernel_rfl) hS0 ⟨by rfl, fun L w' hL hD hS => ?_⟩ (fun hS0 => ?_)
  · refine .inl ?_
    go_simp
  refine wpAnyD_take (i := 1) (v := Value.string a) rfl (by kernel_rfl) (by kernel_rfl) (by kernel_rfl) (by kernel_rfl) (fun _ _ _ h => h) (fun L w => by simp only [getD_set_ne false (by decide : (1 : Nat) ≠ 10), getD_set_ne false (by decide : (1 : Nat) ≠ 12), getD_set_ne false (by decide : (1 : Nat) ≠ 14)]) (by kernel_rfl) hS0 ⟨by rfl, fun L w' hL hD hS => ?_⟩ (fun hS0 => ?_)
  · have hh := hS.1 (blocked (j := 10) hD hL (by kernel_rfl))
    refine .inl ?_
    go_simp
  refine wpAnyD_take (i := 2) (v := Value.string a') rfl (by kernel_rfl) (by kernel_rfl) (by kernel_rfl) (by kernel_rfl) (fun _ _ _ h => h) (fun L w => by simp only [getD_set_ne false (by decide : (2 : Nat) ≠ 10), getD_set_ne false (by decide : (2 : Nat) ≠ 12), getD_set_ne false (by decide : (2 : Nat) ≠ 14)]) (by kernel_rfl) hS0 ⟨by rfl, fun L w' hL hD hS => ?_⟩ (fun hS0 => ?_)
  · refine .inr ⟨_, _, by first | rfl | (go_simp; rfl) | go_simp, (C1.out w').mono (fun e w'' h => h)⟩
  refine wpAnyD_take (i := 3) (v := Value.pointer (some ⟨A, 3, none⟩)) rfl (by kernel_rfl) (by kernel_rfl) (by kernel_rfl) (by kernel_rfl) (fun _ _ _ h => h) (fun L w => by simp only [getD_set_ne false (by decide : (3 : Nat) ≠ 10), getD_set_ne false (by decide : (3 : Nat) ≠ 12), getD_set_ne false (by decide : (3 : Nat) ≠ 14)]) (by kernel_rfl) hS0 ⟨by rfl, fun L w' hL hD hS => ?_⟩ (fun hS0 => ?_)
  · refine .inl ?_
    go_simp
  refine wpAnyD_take (i := 4) (v := Value.string b) rfl (by kernel_rfl) (by kernel_rfl) (by kernel_rfl) (by kernel_rfl) (fun _ _ _ h => h) (fun L w => by simp only [getD_set_ne false (by decide : (4 : Nat) ≠ 10), getD_set_ne false (by decide : (4 : Nat) ≠ 12), getD_set_ne false (by decide : (4 : Nat) ≠ 14)]) (by kernel_rfl) hS0 ⟨by rfl, fun L w' hL hD hS => ?_⟩ (fun hS0 => ?_)
  · have hh := hS.2.1 (blocked (j := 12) hD hL (by kernel_rfl))
    refine .inl ?_
    go_simp
  refine wpAnyD_take (i := 5) (v := Value.string b') rfl (by kernel_rfl) (by kernel_rfl) (by kernel_rfl) (by kernel_rfl) (fun _ _ _ h => h) (fun L w => by simp only [getD_set_ne false (by decide : (5 : Nat) ≠ 10), getD_set_ne false (by decide : (5 : Nat) ≠ 12), getD_set_ne false (by decide : (5 : Nat) ≠ 14)]) (by kernel_rfl) hS0 ⟨by rfl, fun L w' hL hD hS => ?_⟩ (fun hS0 => ?_)
  · refine .inr ⟨_, _, by first | rfl | (go_simp; rfl) | go_simp, (C2.out w').mono (fun e w'' h => h)⟩
  refine wpAnyD_take (i := 6) (v := Value.pointer (some ⟨A, 4, none⟩)) rfl (by kernel_rfl) (by kernel_rfl) (by kernel_rfl) (by kernel_rfl) (fun _ _ _ h => h) (fun L w => by simp only [getD_set_ne false (by decide : (6 : Nat) ≠ 10), getD_set_ne false (by decide : (6 : Nat) ≠ 12), getD_set_ne false (by decide : (6 : Nat) ≠ 14)]) (by kernel_rfl) hS0 ⟨by rfl, fun L w' hL hD hS => ?_⟩ (fun hS0 => ?_)
  · refine .inl ?_
    go_simp
  refine wpAnyD_take (i := 7) (v := Value.string s) rfl (by kernel_rfl) (by kernel_rfl) (by kernel_rfl) (by kernel_rfl) (fun _ _ _ h => h) (fun L w => by simp only [getD_set_ne false (by decide : (7 : Nat) ≠ 10), getD_set_ne false (by decide : (7 : Nat) ≠ 12), getD_set_ne false (by decide : (7 : Nat) ≠ 14)]) (by kernel_rfl) hS0 ⟨by rfl, fun L w' hL hD hS => ?_⟩ (fun hS0 => ?_)
  · have hh := hS.2.2 (blocked (j := 14) hD hL (by kernel_rfl))
    refine .inl ?_
    go_simp
  refine wpAnyD_take (i := 8) (v := Value.string s') rfl (by kernel_rfl) (by kernel_rfl) (by kernel_rfl) (by kernel_rfl) (fun _ _ _ h => h) (fun L w => by simp only [getD_set_ne false (by decide : (8 : Nat) ≠ 10), getD_set_ne false (by decide : (8 : Nat) ≠ 12), getD_set_ne false (by decide : (8 : Nat) ≠ 14)]) (by kernel_rfl) hS0 ⟨by rfl, fun L w' hL hD hS => ?_⟩ (fun hS0 => ?_)
  · refine .inr ⟨_, _, by first | rfl | (go_simp; rfl) | go_simp, (C3.out w').mono (fun e w'' h => h)⟩
  refine wpAnyD_take (i := 9) (v := Value.pointer (some ⟨A, 2, none⟩)) rfl (by kernel_rfl) (by kernel_rfl) (by kernel_rfl) (by kernel_rfl) (fun _ _ _ h => h) (fun L w => by simp only [getD_set_ne false (by decide : (9 : Nat) ≠ 10), getD_set_ne false (by decide : (9 : Nat) ≠ 12), getD_set_ne false (by decide : (9 : Nat) ≠ 14)]) (by kernel_rfl) hS0 ⟨by rfl, fun L w' hL hD hS => ?_⟩ (fun hS0 => ?_)
  · refine .inl ?_
    go_simp
  simp only [List.getElem_toArray, List.getElem_cons_succ, List.getElem_cons_zero, Act.put, List.setIfInBounds_toArray, List.set_cons_zero, List.set_cons_succ]
  refine wpAnyD_one (i := 10) (by kernel_rfl) rfl (by kernel_rfl) (fun K hK => ?_)
  simp only [List.getElem_toArray, List.getElem_cons_succ, List.getElem_cons_zero]
  go_simp
  refine hK.out _ _ ⟨fun h => (by cases h), fun _ => k3 _, fun _ => k4 _⟩ (fun hS0 => ?_)
  clear hK
  refine wpAnyD_take (i := 11) (v := Value.pointer (some ⟨A, 3, none⟩)) rfl (by kernel_rfl) (by kernel_rfl) (by kernel_rfl) (by kernel_rfl) (fun _ _ _ h => h) (fun L w => by simp only [getD_set_ne false (by decide : (11 : Nat) ≠ 10), getD_set_ne false (by decide : (11 : Nat) ≠ 12), getD_set_ne false (by decide : (11 : Nat) ≠ 14)]) (by kernel_rfl) hS0 ⟨by rfl, fun L w' hL hD hS => ?_⟩ (fun hS0 => ?_)
  · refine .inl ?_
    go_simp
  simp only [List.getElem_toArray, List.getElem_cons_succ, List.getElem_cons_zero, Act.put, List.setIfInBounds_toArray, List.set_cons_zero, List.set_cons_succ]
  refine wpAnyD_one (i := 12) (by kernel_rfl) rfl (by kernel_rfl) (fun K hK => ?_)
  simp only [List.getElem_toArray, List.getElem_cons_succ, List.getElem_cons_zero]
  go_simp
  refine hK.out _ _ ⟨fun h => (by cases h), fun h => (by cases h), fun _ => m4 _ _⟩ (fun hS0 => ?_)
  clear hK
  refine wpAnyD_take (i := 13) (v := Value.pointer (some ⟨A, 4, none⟩)) rfl (by kernel_rfl) (by kernel_rfl) (by kernel_rfl) (by kernel_rfl) (fun _ _ _ h => h) (fun L w => by simp only [getD_set_ne false (by decide : (13 : Nat) ≠ 10), getD_set_ne false (by decide : (13 : Nat) ≠ 12), getD_set_ne false (by decide : (13 : Nat) ≠ 14)]) (by kernel_rfl) hS0 ⟨by rfl, fun L w' hL hD hS => ?_⟩ (fun hS0 => ?_)
  · refine .inl ?_
    go_simp
  simp only [List.getElem_toArray, List.getElem_cons_succ, List.getElem_cons_zero, Act.put, List.setIfInBounds_toArray, List.set_cons_zero, List.set_cons_succ]
  refine wpAnyD_one (i := 14) (by kernel_rfl) rfl (by kernel_rfl) (fun K hK => ?_)
  simp only [List.getElem_toArray, List.getElem_cons_succ, List.getElem_cons_zero]
  go_simp
  refine hK.out _ _ ⟨fun h => (by cases h), fun h => (by cases h), fun h => (by cases h)⟩ (fun hS0 => ?_)
  clear hK
  refine wpAnyD_done (by kernel_rfl) ?_ _
  have HB0 := Lib.hid ((bx_set H.out a' b' s').below ((Below.refl _ _).drew))
  have hst : st.l.length ≤ 1000000 := by rw [← HK.out.len]; omega
  have htz : total l ≤ z := by have := HK.out.room; have := HK.out.total; omega
  have hpr : ∀ e ∈ l, e.2.p ≤ e.2.t.size := fun e he => HK.out.wf.pressed e (HK.out.perm.mem_iff.1 he)
  clear e0 e1 e2 e3 e4 f2 f3 f4 H C1 C2 C3 hS0 g3 g4 k3 k4 m4
  generalize (((V.setCell ⟨A, 2, none⟩ (.string a')).setCell ⟨A, 3, none⟩ (.string b')).setCell ⟨A, 4, none⟩ (.string s')).drew = W at *
  have HB := Lib.hid HB0.out
  obtain ⟨q0, q1, q2, q3, q4⟩ := bx_cells HB.out
  clear HB0
  by_cases k0 : kind = 0
  · subst k0
    obtain ⟨lk1, lk2⟩ := like_write HK.out a' s'
    have hlen2 : (rwriteS z l a' s').2.length ≤ l.length + 1 := by
      rw [lk2.len, HK.out.len]
      exact len_write _ _ _
    have CW := fun (W1 : World) (h1 : Sp w0 W1 [ch c st, rch d z l, bx A (obox 0 n a' b' s')]) => c_write h1 hst a' s' (by omega)
    have RW := fun (W1 : World) (st2 : St) (h1 : Sp w0 W1 [rch d z l, bx A (obox 0 n a' b' s'), ch c st2]) => r_write h1 htz hz (by omega) a' s' (by omega)
    simp only [lk1] at RW
    have HCW := Lib.hid CW
    have HRW := Lib.hid RW
    have HL2 := Lib.hid (And.intro lk2 hlen2)
    clear CW RW lk1 lk2 hlen2
    generalize write st a' s' = pr at *
    generalize rwriteS z l a' s' = rr at *
    go_wp2_with fail
    go_region_held3 (fun W1 => W1.cell? ⟨A, 2, none⟩ = some (.string a') ∧ W1.cell? ⟨A, 4, none⟩ = some (.string s')) (go_keep) (first
      | (go_at_call 19; refine (HCW.out _ (HB.out.below ((Below.refl _ _).drew)).rot.rot).mono ?_; rintro _ w4 ⟨rfl, h4⟩; have H4 := Lib.hid h4; obtain ⟨u0, u1, u2, u3, u4⟩ := bx_cells h4.rot; clear h4)
      | (go_at_call 29; refine (HRW.out _ _ H4.out.rot.rot).mono ?_; rintro _ w5 ⟨rfl, h5⟩; have H5 := Lib.hid h5; obtain ⟨v0, v1, v2, v3, v4⟩ := bx_cells h5.rot.rot; clear h5))
    all_goals
      go_wp2_with fail
      go_ret3
      exact ⟨c, d, _, _, rfl, H5.out.rot.rot.drop, HL2.out.1, HL2.out.2⟩
  by_cases k1 : kind = 1
  · subst k1
    obtain ⟨lk1, lk2⟩ := like_press HK.out a'
    have hlen2 : (rpressS l a').2.length ≤ l.length + 1 := by
      rw [lk2.len, HK.out.len]
      exact Nat.le_trans (Nat.le_of_eq (len_press _ _)) (Nat.le_succ _)
    have CW := fun (W1 : World) (h1 : Sp w0 W1 [ch c st, rch d z l, bx A (obox 1 n a' b' s')]) => c_press h1 a' (by omega)
    have RW := fun (W1 : World) (st2 : St) (h1 : Sp w0 W1 [rch d z l, bx A (obox 1 n a' b' s'), ch c st2]) => r_press h1 (by omega) a'
    simp only [lk1] at RW
    have HCW := Lib.hid CW
    have HRW := Lib.hid RW
    have HL2 := Lib.hid (And.intro lk2 hlen2)
    clear CW RW lk1 lk2 hlen2
    generalize press st a' = pr at *
    generalize rpressS l a' = rr at *
    go_wp2_with fail
    go_region_held3 (fun W1 => W1.cell? ⟨A, 2, none⟩ = some (.string a')) (go_keep) (first
      | (go_at_call 23; refine (HCW.out _ (HB.out.below ((Below.refl _ _).drew)).rot.rot).mono ?_; rintro _ w4 ⟨rfl, h4⟩; have H4 := Lib.hid h4; obtain ⟨u0, u1, u2, u3, u4⟩ := bx_cells h4.rot; clear h4)
      | (go_at_call 30; refine (HRW.out _ _ H4.out.rot.rot).mono ?_; rintro _ w5 ⟨rfl, h5⟩; have H5 := Lib.hid h5; obtain ⟨v0, v1, v2, v3, v4⟩ := bx_cells h5.rot.rot; clear h5))
    all_goals
      go_wp2_with fail
      go_ret3
      exact ⟨c, d, _, _, rfl, H5.out.rot.rot.drop, HL2.out.1, HL2.out.2⟩
  by_cases k2 : kind = 2
  · subst k2
    obtain ⟨lk1, lk2⟩ := like_cut HK.out a' n
    have hlen2 : (rcutS l a' n).2.length ≤ l.length + 1 := by
      rw [lk2.len, HK.out.len]
      exact Nat.le_trans (Nat.le_of_eq (len_cut _ _ _)) (Nat.le_succ _)
    have CW := fun (W1 : World) (h1 : Sp w0 W1 [ch c st, rch d z l, bx A (obox 2 n a' b' s')]) => c_cut h1 a' (by omega) n
    have RW := fun (W1 : World) (st2 : St) (h1 : Sp w0 W1 [rch d z l, bx A (obox 2 n a' b' s'), ch c st2]) => r_cut h1 (by omega) a' n
    simp only [lk1] at RW
    have HCW := Lib.hid CW
    have HRW := Lib.hid RW
    have HL2 := Lib.hid (And.intro lk2 hlen2)
    clear CW RW lk1 lk2 hlen2
    generalize cut st a' n = pr at *
    generalize rcutS l a' n = rr at *
    go_wp2_with fail
    go_region_held3 (fun W1 => W1.cell? ⟨A, 2, none⟩ = some (.string a') ∧ W1.cell? ⟨A, 1, none⟩ = some (.int .i64 n)) (go_keep) (first
      | (go_at_call 24; refine (HCW.out _ (HB.out.below ((Below.refl _ _).drew)).rot.rot).mono ?_; rintro _ w4 ⟨rfl, h4⟩; have H4 := Lib.hid h4; obtain ⟨u0, u1, u2, u3, u4⟩ := bx_cells h4.rot; clear h4)
      | (go_at_call 31; refine (HRW.out _ _ H4.out.rot.rot).mono ?_; rintro _ w5 ⟨rfl, h5⟩; have H5 := Lib.hid h5; obtain ⟨v0, v1, v2, v3, v4⟩ := bx_cells h5.rot.rot; clear h5))
    all_goals
      go_wp2_with fail
      go_ret3
      exact ⟨c, d, _, _, rfl, H5.out.rot.rot.drop, HL2.out.1, HL2.out.2⟩
  by_cases k3 : kind = 3
  · subst k3
    obtain ⟨lk1, lk2⟩ := like_call HK.out a' b'
    have hlen2 : (rcallS l a' b').2.length ≤ l.length + 1 := by
      rw [lk2.len, HK.out.len]
      exact len_call _ _ _
    have CW := fun (W1 : World) (h1 : Sp w0 W1 [ch c st, rch d z l, bx A (obox 3 n a' b' s')]) => c_call h1 hst a' b' (by omega) (by omega)
    have RW := fun (W1 : World) (st2 : St) (h1 : Sp w0 W1 [rch d z l, bx A (obox 3 n a' b' s'), ch c st2]) => r_call h1 (by omega) a' b' (by omega) (by omega)
    simp only [lk1] at RW
    have HCW := Lib.hid CW
    have HRW := Lib.hid RW
    have HL2 := Lib.hid (And.intro lk2 hlen2)
    clear CW RW lk1 lk2 hlen2
    generalize call st a' b' = pr at *
    generalize rcallS l a' b' = rr at *
    go_wp2_with fail
    go_region_held3 (fun W1 => W1.cell? ⟨A, 2, none⟩ = some (.string a') ∧ W1.cell? ⟨A, 3, none⟩ = some (.string b')) (go_keep) (first
      | (go_at_call 25; refine (HCW.out _ (HB.out.below ((Below.refl _ _).drew)).rot.rot).mono ?_; rintro _ w4 ⟨rfl, h4⟩; have H4 := Lib.hid h4; obtain ⟨u0, u1, u2, u3, u4⟩ := bx_cells h4.rot; clear h4)
      | (go_at_call 32; refine (HRW.out _ _ H4.out.rot.rot).mono ?_; rintro _ w5 ⟨rfl, h5⟩; have H5 := Lib.hid h5; obtain ⟨v0, v1, v2, v3, v4⟩ := bx_cells h5.rot.rot; clear h5))
    all_goals
      go_wp2_with fail
      go_ret3
      exact ⟨c, d, _, _, rfl, H5.out.rot.rot.drop, HL2.out.1, HL2.out.2⟩
  have CW := fun (W1 : World) (h1 : Sp w0 W1 [ch c st, rch d z l, bx A (obox kind n a' b' s')]) => c_tear h1 hst n
  have RW := fun (W1 : World) (d1 : Nat) (st2 : St) (h1 : Sp w0 W1 [rch d z l, bx A (obox kind n a' b' s'), ch d1 st2]) => r_tear h1 hpr (by omega) (by omega) n
  have lk := like_tear HK.out n
  have hlen2 : (tRolls l n).length ≤ l.length + 1 := by
    rw [lk.len, HK.out.len]
    exact Nat.le_trans (len_tear _ _) (Nat.le_succ _)
  have HCW := Lib.hid CW
  have HRW := Lib.hid RW
  have HL2 := Lib.hid (And.intro lk hlen2)
  clear CW RW lk hlen2
  generalize tear st n = st2 at *
  generalize tRolls l n = l2 at *
  go_wp2_with fail
  go_region_held3 (fun W1 => W1.cell? ⟨A, 1, none⟩ = some (.int .i64 n)) (go_keep) (first
    | (go_at_call 12; refine (HCW.out _ (HB.out.below ((Below.refl _ _).drew)).rot.rot).mono ?_; rintro _ w4 ⟨c2, rfl, h4⟩; have H4 := Lib.hid h4.swap.drop; obtain ⟨u0, u1, u2, u3, u4⟩ := bx_cells h4.swap.drop.rot; clear h4)
    | (go_at_call 13; refine (HRW.out _ _ _ H4.out.rot.rot).mono ?_; rintro _ w5 ⟨d2, rfl, h5⟩; have H5 := Lib.hid h5.swap.drop; obtain ⟨v0, v1, v2, v3, v4⟩ := bx_cells h5.swap.drop.rot.rot; clear h5))
  all_goals
    go_wp2_with fail
    go_ret3
    exact ⟨c2, d2, _, _, rfl, H5.out.rot.rot.drop, HL2.out.1, HL2.out.2⟩

end Go.Proofs.YtaekieoingflaaaGreatDoor
