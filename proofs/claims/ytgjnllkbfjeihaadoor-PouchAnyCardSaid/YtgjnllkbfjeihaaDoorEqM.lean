/-
  Classes of places: the map in memory, its look and its store; what keeps it without a ring.
-/
import Derived.Test.YtgjnllkbfjeihaaDoorEqs
import Derived.Deep.LoopGhost
import Derived.WideKeyRuns
namespace Go.Proofs.YtgjnllkbfjeihaaDoor
open Go.RowKit

/-- A place: where a list lies, its length. -/
abbrev Pl := Addr × Int

def plV (p : Pl) : Value := .agg #[.pointer (some p.1), .int .i64 p.2]

theorem plV_inj {p q : Pl} (h : plV p = plV q) : p = q := by
  obtain ⟨a, n⟩ := p
  obtain ⟨b, m⟩ := q
  simp only [plV, Value.agg.injEq, Array.mk.injEq, List.cons.injEq, Value.pointer.injEq, Option.some.injEq, Value.int.injEq, true_and, and_true] at h
  rw [h.1, h.2]

def lk : List (Pl × Pl) → Pl → Option Pl
  | [], _ => none
  | e :: r, x => if x = e.1 then some e.2 else lk r x

def st : List (Pl × Pl) → Pl → Pl → List (Pl × Pl)
  | [], x, y => [(x, y)]
  | e :: r, x, y => if x = e.1 then (x, y) :: r else e :: st r x y

theorem lk_mem : ∀ (E : List (Pl × Pl)) (x y : Pl), lk E x = some y → (x, y) ∈ E
  | [], _, _, h => by cases h
  | e :: r, x, y, h => by
    unfold lk at h
    by_cases hx : x = e.1
    · rw [if_pos hx] at h
      cases h
      subst hx
      exact List.mem_cons_self
    · rw [if_neg hx] at h
      exact List.mem_cons_of_mem _ (lk_mem r x y h)

theorem st_mem : ∀ (E : List (Pl × Pl)) (x y : Pl) (e : Pl × Pl), e ∈ st E x y → e = (x, y) ∨ e ∈ E
  | [], x, y, e, h => by
    unfold st at h
    exact .inl (List.mem_singleton.1 h)
  | a :: r, x, y, e, h => by
    unfold st at h
    by_cases hx : x = a.1
    · rw [if_pos hx] at h
      rcases List.mem_cons.1 h with h | h
      · exact .inl h
      · exact .inr (List.mem_cons_of_mem _ h)
    · rw [if_neg hx] at h
      rcases List.mem_cons.1 h with h | h
      · exact .inr (by rw [h]; exact List.mem_cons_self)
      · rcases st_mem r x y e h with h | h
        · exact .inl h
        · exact .inr (List.mem_cons_of_mem _ h)

theorem lk_st : ∀ (E : List (Pl × Pl)) (x y p : Pl), lk (st E x y) p = if p = x then some y else lk E p
  | [], x, y, p => by
    unfold st lk
    rfl
  | a :: r, x, y, p => by
    unfold st
    by_cases hx : x = a.1
    · rw [if_pos hx]
      unfold lk
      by_cases hp : p = x
      · rw [if_pos hp, if_pos hp]
      · rw [if_neg hp, if_neg hp, if_neg (by rw [← hx]; exact hp)]
    · rw [if_neg hx]
      unfold lk
      by_cases hp : p = a.1
      · rw [if_pos hp, if_neg (by rw [hp]; exact fun e => hx e.symm), if_pos hp]
      · rw [if_neg hp, if_neg hp, lk_st r x y p]

/-- No ring: each entry leads upwards; what is in no entry is its class's name. -/
def Inv (r : Pl → Nat) (cl : Pl → Pl) (E : List (Pl × Pl)) : Prop :=
  (∀ e ∈ E, r e.1 < r e.2 ∧ cl e.1 = cl e.2) ∧ ∀ p, lk E p = none → cl p = p

theorem Inv.half {r : Pl → Nat} {cl : Pl → Pl} {E : List (Pl × Pl)} (h : Inv r cl E) {x y z : Pl} (h1 : lk E x = some y) (h2 : lk E y = some z) : Inv r cl (st E x z) := by
  refine ⟨fun e he => ?_, fun p hp => ?_⟩
  · rcases st_mem E x z e he with rfl | he
    · have a := h.1 _ (lk_mem E x y h1)
      have b := h.1 _ (lk_mem E y z h2)
      exact ⟨Nat.lt_trans a.1 b.1, a.2.trans b.2⟩
    · exact h.1 e he
  · rw [lk_st] at hp
    by_cases hx : p = x
    · rw [if_pos hx] at hp; cases hp
    · rw [if_neg hx] at hp; exact h.2 p hp

theorem Inv.join {r : Pl → Nat} {cl : Pl → Pl} {E : List (Pl × Pl)} (h : Inv r cl E) {x y : Pl} (h1 : lk E x = none) (h2 : lk E y = none) (hne : x ≠ y) : ∃ r' cl', Inv r' cl' (st E x y) := by
  have cx := h.2 x h1
  have cy := h.2 y h2
  refine ⟨fun p => if cl p = y then r p + r x + 1 else r p, fun p => if cl p = x then y else cl p, fun e he => ?_, fun p hp => ?_⟩
  · rcases st_mem E x y e he with rfl | he
    · have e1 : ¬ cl x = y := by rw [cx]; exact hne
      have e2 : ¬ cl y = x := by rw [cy]; exact fun e => hne e.symm
      show (if cl x = y then _ else _) < (if cl y = y then _ else _) ∧ (if cl x = x then y else cl x) = (if cl y = x then y else cl y)
      rw [if_neg e1, if_pos cy, if_pos cx, if_neg e2]
      exact ⟨by show r x < r y + r x + 1; omega, cy.symm⟩
    · obtain ⟨a, b⟩ := h.1 e he
      show (if cl e.1 = y then _ else _) < (if cl e.2 = y then _ else _) ∧ (if cl e.1 = x then y else cl e.1) = (if cl e.2 = x then y else cl e.2)
      rw [b]
      refine ⟨?_, rfl⟩
      by_cases hy : cl e.2 = y
      · rw [if_pos hy, if_pos hy]; omega
      · rw [if_neg hy, if_neg hy]; exact a
  · rw [lk_st] at hp
    by_cases hx : p = x
    · rw [if_pos hx] at hp; cases hp
    · rw [if_neg hx] at hp
      have := h.2 p hp
      show (if cl p = x then y else cl p) = p
      rw [this, if_neg hx]

/-- A place in a block of cells that no view and no frost is on. -/
def GoodP (w : World) (p : Pl) : Prop := ∃ cur t, w.heap[p.1.block]? = some (.cells cur t (0, 0))

theorem run_ptr_same (w : World) (a : Addr) (d : Nat) : (Op.equalIn (d + 1) 60 (.pointer (some a)) (.pointer (some a))).run Tryd.prog w = .ok true w := by
  obtain ⟨i0, hi, _, hz1, _⟩ := info_parts infoVal
  simp [Op.equalIn, run_underlying Tryd.underlying60, typeInfo, sizeOf, hi, run_sameAddr_same]

theorem run_eq_pl1 (w : World) (a b : Addr) (n m : Int) (r : Bool) (d : Nat) (h : (Op.equalIn (d + 1) 60 (.pointer (some a)) (.pointer (some b))).run Tryd.prog w = .ok r w) :
    (Op.equalIn (d + 2) 63 (plV (a, n)) (plV (b, m))).run Tryd.prog w = .ok (r && n == m) w := by
  have hz : (Tryd.prog.stoodInHeld 63) = false := by kernel_rfl
  have hi (d : Nat) : (Op.equalIn (d + 1) 3 (.int .i64 n) (.int .i64 m)).run Tryd.prog w = .ok (n == m) w := by
    simp [Op.equalIn, run_underlying Tryd.underlying3]
  unfold Op.equalIn
  simp only [plV, Sem.run_bind, run_underlying Tryd.underlying63, Result.andThen_ok]
  have hp : (Sem.run Tryd.prog program w) = .ok Tryd.prog w := rfl
  rw [hp]
  simp only [Result.andThen_ok, hz]
  have k1 : (part 60 #[.pointer (some a), .int .i64 n] 0).run Tryd.prog w = .ok (.pointer (some a)) w := by kernel_rfl
  have k2 : (part 60 #[.pointer (some b), .int .i64 m] 0).run Tryd.prog w = .ok (.pointer (some b)) w := by kernel_rfl
  have k3 : (part 3 #[.pointer (some a), .int .i64 n] 1).run Tryd.prog w = .ok (.int .i64 n) w := by kernel_rfl
  have k4 : (part 3 #[.pointer (some b), .int .i64 m] 1).run Tryd.prog w = .ok (.int .i64 m) w := by kernel_rfl
  cases r with
  | false =>
    simp [k1, k2, h]
  | true =>
    cases hnm : (n == m) with
    | true =>
      rw [hnm] at hi
      simp [k1, k2, k3, k4, h, hi]
    | false =>
      rw [hnm] at hi
      simp [k1, k2, k3, k4, h, hi]

set_option maxRecDepth 100000 in
theorem run_eq_pl (w : World) (p q : Pl) (hp : GoodP w p) (hq : GoodP w q) : (Op.equal 63 (plV p) (plV q)).run Tryd.prog w = .ok (decide (p = q)) w := by
  obtain ⟨a, n⟩ := p
  obtain ⟨b, m⟩ := q
  obtain ⟨c1, t1, h1⟩ := hp
  obtain ⟨c2, t2, h2⟩ := hq
  by_cases hab : a = b
  · subst hab
    have := run_eq_pl1 w a a n m true 9998 (run_ptr_same w a 9998)
    simp only [Bool.true_and] at this
    refine this.trans (congrArg (fun r => Result.ok r w) ?_)
    by_cases hn : n = m
    · subst hn; simp
    · rw [beq_eq_false_iff_ne.2 hn, decide_eq_false (fun e => hn (Prod.mk.inj e).2)]
  · have := run_eq_pl1 w a b n m false 9998 (run_ptr_other w hab h1 h2 9998)
    refine this.trans (congrArg (fun r => Result.ok r w) ?_)
    rw [Bool.false_and, decide_eq_false (fun e => hab (Prod.mk.inj e).1)]

def ent (e : MapEntry) : Value × Value := (e.key, e.val)

def plE (e : Pl × Pl) : Value × Value := (plV e.1, plV e.2)

/-- The map of classes, in memory. -/
def MapIs (w : World) (m : Nat) (E : List (Pl × Pl)) : Prop := ∃ es clock, w.heap[m]? = some (.map es clock) ∧ es.toList.map ent = E.map plE

theorem run_find (w : World) (x : Pl) (hx : GoodP w x) : ∀ (l : List MapEntry) (E : List (Pl × Pl)) (i : Nat), l.map ent = E.map plE → (∀ e ∈ E, GoodP w e.1) →
    (lk E x = none ∧ (Instr.findAsking 63 (plV x) l i).run Tryd.prog w = .ok none w) ∨
    ∃ (j : Nat) (b : Pl) (e : MapEntry), lk E x = some b ∧ (Instr.findAsking 63 (plV x) l i).run Tryd.prog w = .ok (some (i + j, plV b)) w ∧ l[j]? = some e ∧ e.key = plV x ∧
      ∀ y : Pl, (l.modify j fun e => { e with key := plV x, val := plV y }).map ent = (st E x y).map plE
  | [], [], i, _, _ => .inl ⟨rfl, rfl⟩
  | [], _ :: _, _, h, _ => by simp at h
  | _ :: _, [], _, h, _ => by simp at h
  | e :: l, f :: E, i, h, hg => by
    simp only [List.map_cons, List.cons.injEq] at h
    obtain ⟨h1, h2⟩ := h
    have hk : e.key = plV f.1 := congrArg (·.1) h1
    have hv : e.val = plV f.2 := congrArg (·.2) h1
    have hq := run_eq_pl w x f.1 hx (hg f List.mem_cons_self)
    by_cases hxf : x = f.1
    · right
      refine ⟨0, f.2, e, ?_, ?_, rfl, by rw [hk, hxf], fun y => ?_⟩
      · unfold lk; rw [if_pos hxf]
      · unfold Instr.findAsking
        simp only [Sem.run_bind, hk, hq, Result.andThen_ok]
        rw [decide_eq_true hxf, if_pos rfl, hv]
        rfl
      · show (_ :: l).map ent = _
        unfold st
        rw [if_pos hxf]
        simp only [List.map_cons, h2]
        rfl
    · have hfa : (Instr.findAsking 63 (plV x) (e :: l) i).run Tryd.prog w = (Instr.findAsking 63 (plV x) l (i + 1)).run Tryd.prog w := by
        conv => lhs; unfold Instr.findAsking
        simp only [Sem.run_bind, hk, hq, Result.andThen_ok]
        rw [decide_eq_false hxf, if_neg (by simp)]
      have hlk : lk (f :: E) x = lk E x := by
        conv => lhs; unfold lk
        rw [if_neg hxf]
      rcases run_find w x hx l E (i + 1) h2 (fun e he => hg e (List.mem_cons_of_mem _ he)) with ⟨a, b⟩ | ⟨j, b, e', a1, a2, a3, a4, a5⟩
      · exact .inl ⟨by rw [hlk]; exact a, by rw [hfa]; exact b⟩
      · refine .inr ⟨j + 1, b, e', by rw [hlk]; exact a1, by rw [hfa, a2, show i + 1 + j = i + (j + 1) by omega], by simpa using a3, a4, fun y => ?_⟩
        have := a5 y
        show (e :: l.modify j _).map ent = _
        unfold st
        rw [if_neg hxf]
        simp only [List.map_cons, this]
        rw [h1]

theorem MapIs.empty_iff {es : Array MapEntry} {E : List (Pl × Pl)} (h : es.toList.map ent = E.map plE) : es.isEmpty = E.isEmpty := by
  obtain ⟨l⟩ := es
  cases l <;> cases E <;> simp_all

theorem run_look_g (m : Nat) (x : Pl) (w : World) (E : List (Pl × Pl)) (hm : MapIs w m E) (hx : GoodP w x) (hg : ∀ e ∈ E, GoodP w e.1) :
    (Instr.lookup 56 (.map (some m)) (plV x) true).run Tryd.prog w = .ok (.tuple #[match lk E x with | none => .agg #[.pointer none, .int .i64 0] | some b => plV b, .bool (lk E x).isSome]) w := by
  obtain ⟨es, clock, hm, he⟩ := hm
  have hk := run_key es.isEmpty x.1 x.2 w
  have hz : (zeroValue 63).run Tryd.prog w = .ok (.agg #[.pointer none, .int .i64 0]) w := by kernel_rfl
  have hf := Go.run_findKey_eq (P := Tryd.prog) w (k := 63) (by kernel_rfl) (plV x) es.toList
  unfold Instr.lookup
  simp only [Sem.run_bind, run_underlying Tryd.underlying56, Result.andThen_ok, Go.MapKept.run_getObj_map hm, Sem.run_pure]
  change (((Instr.checkKey _ 10000 _ (.agg #[.pointer (some x.1), .int .i64 x.2])).run _ w).andThen _) = _
  rw [hk]
  simp only [Result.andThen_ok, hf]
  rcases run_find w x hx es.toList E 0 he hg with ⟨a, b⟩ | ⟨j, b, e', a1, a2, _⟩
  · rw [b, a]
    simp only [Result.andThen_ok, Sem.run_bind, hz, Sem.run_pure]
    rfl
  · rw [a2, a1]
    simp only [Result.andThen_ok]
    rfl

/-- Another world: all blocks but one are as they were. -/
structure SavM (m : Nat) (w w' : World) : Prop where
  os : w'.os = w.os
  tape : w'.tape = w.tape
  output : w'.output = w.output
  size : w.heap.size ≤ w'.heap.size
  block : ∀ j, j < w.heap.size → j ≠ m → w'.heap[j]? = w.heap[j]?

theorem run_put_g (m : Nat) (x y : Pl) (w : World) (E : List (Pl × Pl)) (hm : MapIs w m E) (hx : GoodP w x) (hg : ∀ e ∈ E, GoodP w e.1) :
    ∃ w', (Instr.mapUpdate 56 (.map (some m)) (plV x) (plV y)).run Tryd.prog w = .ok () w' ∧ MapIs w' m (st E x y) ∧ SavM m w w' ∧ w'.heap.size = w.heap.size := by
  obtain ⟨es, clock, hm, he⟩ := hm
  have hk := run_key false x.1 x.2 w
  have hf := Go.run_findKey_eq (P := Tryd.prog) w (k := 63) (by kernel_rfl) (plV x) es.toList
  have hml : m < w.heap.size := lt_of_heap hm
  have fin : ∀ o : Obj, SavM m w { w with heap := w.heap.setIfInBounds m o } := fun o => ⟨rfl, rfl, rfl, by simp, fun j _ hne => by
    show (w.heap.setIfInBounds m o)[j]? = _
    rw [Array.getElem?_setIfInBounds_ne (fun e => hne e.symm)]⟩
  have self : ∀ o : Obj, ({ w with heap := w.heap.setIfInBounds m o } : World).heap[m]? = some o := fun o => by
    show (w.heap.setIfInBounds m o)[m]? = _
    rw [Array.getElem?_setIfInBounds_self_of_lt hml]
  rcases run_find w x hx es.toList E 0 he hg with ⟨a, b⟩ | ⟨j, b, e', a1, a2, a3, a4, a5⟩
  · refine ⟨{ w with heap := w.heap.setIfInBounds m (.map (es.push { key := plV x, val := plV y, born := clock }) (clock + 1)) }, ?_, ⟨_, _, self _, ?_⟩, fin _, by simp⟩
    · unfold Instr.mapUpdate
      simp only [Sem.run_bind, run_underlying Tryd.underlying56, Result.andThen_ok, Go.MapKept.run_getObj_map hm]
      change (((Instr.checkKey _ 10000 _ (.agg #[.pointer (some x.1), .int .i64 x.2])).run _ w).andThen _) = _
      rw [hk]
      simp only [Result.andThen_ok, hf, b]
      exact Go.MapKept.run_setObj_map _ hm
    · have hst : ∀ E : List (Pl × Pl), lk E x = none → st E x y = E ++ [(x, y)] := by
        intro E
        induction E with
        | nil => intro _; rfl
        | cons f E ih =>
          intro hn
          unfold lk at hn
          by_cases hxf : x = f.1
          · rw [if_pos hxf] at hn; cases hn
          · rw [if_neg hxf] at hn
            unfold st
            rw [if_neg hxf, ih hn]
            rfl
      rw [hst E a]
      simp only [Array.toList_push, List.map_append, List.map_cons, List.map_nil, he]
      rfl
  · have hsb : Instr.sameBits 10000 e'.key (plV x) = true := by
      rw [a4]
      simp [plV, Instr.sameBits]
    refine ⟨{ w with heap := w.heap.setIfInBounds m (.map (es.modify j fun e => { e with key := plV x, val := plV y }) clock) }, ?_, ⟨_, _, self _, ?_⟩, fin _, by simp⟩
    · unfold Instr.mapUpdate
      simp only [Sem.run_bind, run_underlying Tryd.underlying56, Result.andThen_ok, Go.MapKept.run_getObj_map hm]
      change (((Instr.checkKey _ 10000 _ (.agg #[.pointer (some x.1), .int .i64 x.2])).run _ w).andThen _) = _
      rw [hk]
      simp only [Result.andThen_ok, hf, a2, Nat.zero_add]
      have hej : es[j]? = some e' := by simpa using a3
      have hks : (Instr.keyThatStays (((es[j]?).map (·.key)).getD (plV x)) (plV x)).run Tryd.prog w = .ok (plV x) w := by
        unfold Instr.keyThatStays
        rw [hej]
        simp only [Option.map_some, Option.getD_some, hsb, if_true, Sem.run_pure]
      simp only [Sem.run_bind, hks, Result.andThen_ok]
      exact Go.MapKept.run_setObj_map _ hm
    · rw [Array.toList_modify, a5 y]

end Go.Proofs.YtgjnllkbfjeihaaDoor
