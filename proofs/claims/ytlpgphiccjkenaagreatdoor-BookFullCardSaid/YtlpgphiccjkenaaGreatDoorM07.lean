/-
 Contracts of the program, and what they rest on.
-/
import Derived.Test.YtlpgphiccjkenaaGreatDoorM06
import Derived.Deep.LoopGhost
import Derived.WideKeyRuns
set_option maxRecDepth 100000
set_option maxHeartbeats 16000000
namespace Go.Proofs.YtlpgphiccjkenaaGreatDoor
open Go.RowKit
abbrev Pl := Addr × Int
def plV (p : Pl) : Value := .agg #[.pointer (some p.1), .int .i64 p.2]
def lk : List (Pl × Pl) → Pl → Option Pl
 | [], _ => none
 | e :: r, x => if x = e.1 then some e.2 else lk r x
def st : List (Pl × Pl) → Pl → Pl → List (Pl × Pl)
 | [], x, y => [(x, y)]
 | e :: r, x, y => if x = e.1 then (x, y) :: r else e :: st r x y
theorem lk_mem : ∀ (E : List (Pl × Pl)) (x y : Pl), lk E x = some y → (x, y) ∈ E
 | [], _, _, h => by cases h
 | e :: r, x, y, h => by
  unfold lk at h
  by_cases hx : x = e.1
  ·rw [if_pos hx] at h
   cases h
   subst hx
   exact List.mem_cons_self
  ·rw [if_neg hx] at h
   exact List.mem_cons_of_mem _ (lk_mem r x y h)
theorem st_mem : ∀ (E : List (Pl × Pl)) (x y : Pl) (e : Pl × Pl), e ∈ st E x y → e = (x, y) ∨ e ∈ E
 | [], x, y, e, h => by
  unfold st at h
  exact .inl (List.mem_singleton.1 h)
 | a :: r, x, y, e, h => by
  unfold st at h
  by_cases hx : x = a.1
  ·rw [if_pos hx] at h
   rcases List.mem_cons.1 h with h | h
   ·exact .inl h
   ·exact .inr (List.mem_cons_of_mem _ h)
  ·rw [if_neg hx] at h
   rcases List.mem_cons.1 h with h | h
   ·exact .inr (by rw [h]; exact List.mem_cons_self)
   ·rcases st_mem r x y e h with h | h
    ·exact .inl h
    ·exact .inr (List.mem_cons_of_mem _ h)
theorem lk_st : ∀ (E : List (Pl × Pl)) (x y p : Pl), lk (st E x y) p = if p = x then some y else lk E p
 | [], x, y, p => by
  unfold st lk
  rfl
 | a :: r, x, y, p => by
  unfold st
  by_cases hx : x = a.1
  ·rw [if_pos hx]
   unfold lk
   by_cases hp : p = x
   ·rw [if_pos hp, if_pos hp]
   ·rw [if_neg hp, if_neg hp, if_neg (by rw [← hx]; exact hp)]
  ·rw [if_neg hx]
   unfold lk
   by_cases hp : p = a.1
   ·rw [if_pos hp, if_neg (by rw [hp]; exact fun e => hx e.symm), if_pos hp]
   ·rw [if_neg hp, if_neg hp, lk_st r x y p]
def Inv (r : Pl → Nat) (cl : Pl → Pl) (E : List (Pl × Pl)) : Prop :=
 (∀ e ∈ E, r e.1 < r e.2 ∧ cl e.1 = cl e.2) ∧ ∀ p, lk E p = none → cl p = p
theorem Inv.half {r : Pl → Nat} {cl : Pl → Pl} {E : List (Pl × Pl)} (h : Inv r cl E) {x y z : Pl} (h1 : lk E x = some y) (h2 : lk E y = some z) : Inv r cl (st E x z) := by
 refine ⟨fun e he => ?_, fun p hp => ?_⟩
 ·rcases st_mem E x z e he with rfl | he
  ·have a := h.1 _ (lk_mem E x y h1)
   have b := h.1 _ (lk_mem E y z h2)
   exact ⟨Nat.lt_trans a.1 b.1, a.2.trans b.2⟩
  ·exact h.1 e he
 ·rw [lk_st] at hp
  by_cases hx : p = x
  ·rw [if_pos hx] at hp; cases hp
  ·rw [if_neg hx] at hp; exact h.2 p hp
def GoodP (w : World) (p : Pl) : Prop := ∃ cur t, w.heap[p.1.block]? = some (.cells cur t (0, 0))
theorem run_ptr_same (w : World) (a : Addr) (d : Nat) : (Op.equalIn (d + 1) 186 (.pointer (some a)) (.pointer (some a))).run Tryz.prog w = .ok true w := by
 obtain ⟨i0, hi, _, hz1, _⟩ := info_parts infoVal
 simp [Op.equalIn, run_underlying Tryz.underlying186, typeInfo, sizeOf, hi, run_sameAddr_same]
theorem run_eq_pl1 (w : World) (a b : Addr) (n m : Int) (r : Bool) (d : Nat) (h : (Op.equalIn (d + 1) 186 (.pointer (some a)) (.pointer (some b))).run Tryz.prog w = .ok r w) :
  (Op.equalIn (d + 2) 189 (plV (a, n)) (plV (b, m))).run Tryz.prog w = .ok (r && n == m) w := by
 have hz : (Tryz.prog.stoodInHeld 189) = false := by kernel_rfl
 have hi (d : Nat) : (Op.equalIn (d + 1) 3 (.int .i64 n) (.int .i64 m)).run Tryz.prog w = .ok (n == m) w := by
  simp [Op.equalIn, run_underlying Tryz.underlying3]
 unfold Op.equalIn
 simp only [plV, Sem.run_bind, run_underlying Tryz.underlying189, Result.andThen_ok]
 have hp : (Sem.run Tryz.prog program w) = .ok Tryz.prog w := rfl
 rw [hp]
 simp only [Result.andThen_ok, hz]
 have k1 : (part 186 #[.pointer (some a), .int .i64 n] 0).run Tryz.prog w = .ok (.pointer (some a)) w := by kernel_rfl
 have k2 : (part 186 #[.pointer (some b), .int .i64 m] 0).run Tryz.prog w = .ok (.pointer (some b)) w := by kernel_rfl
 have k3 : (part 3 #[.pointer (some a), .int .i64 n] 1).run Tryz.prog w = .ok (.int .i64 n) w := by kernel_rfl
 have k4 : (part 3 #[.pointer (some b), .int .i64 m] 1).run Tryz.prog w = .ok (.int .i64 m) w := by kernel_rfl
 cases r with
 | false =>
  simp [k1, k2, h]
 | true =>
  cases hnm : (n == m) with
  | true =>
   rw [hnm] at hi
   simp [k1, k2, k3, k4, h, hi]
  | false =>
   rw [hnm] at hi
   simp [k1, k2, k3, k4, h, hi]
theorem run_eq_pl (w : World) (p q : Pl) (hp : GoodP w p) (hq : GoodP w q) : (Op.equal 189 (plV p) (plV q)).run Tryz.prog w = .ok (decide (p = q)) w := by
 obtain ⟨a, n⟩ := p
 obtain ⟨b, m⟩ := q
 obtain ⟨c1, t1, h1⟩ := hp
 obtain ⟨c2, t2, h2⟩ := hq
 by_cases hab : a = b
 ·subst hab
  have := run_eq_pl1 w a a n m true 9998 (run_ptr_same w a 9998)
  simp only [Bool.true_and] at this
  refine this.trans (congrArg (fun r => Result.ok r w) ?_)
  by_cases hn : n = m
  ·subst hn; simp
  ·rw [beq_eq_false_iff_ne.2 hn, decide_eq_false (fun e => hn (Prod.mk.inj e).2)]
 ·have := run_eq_pl1 w a b n m false 9998 (run_ptr_other w hab h1 h2 9998)
  refine this.trans (congrArg (fun r => Result.ok r w) ?_)
  rw [Bool.false_and, decide_eq_false (fun e => hab (Prod.mk.inj e).1)]
def ent (e : MapEntry) : Value × Value := (e.key, e.val)
def plE (e : Pl × Pl) : Value × Value := (plV e.1, plV e.2)
def MapIs (w : World) (m : Nat) (E : List (Pl × Pl)) : Prop := ∃ es clock, w.heap[m]? = some (.map es clock) ∧ es.toList.map ent = E.map plE
theorem run_find (w : World) (x : Pl) (hx : GoodP w x) : ∀ (l : List MapEntry) (E : List (Pl × Pl)) (i : Nat), l.map ent = E.map plE → (∀ e ∈ E, GoodP w e.1) →
  (lk E x = none ∧ (Instr.findAsking 189 (plV x) l i).run Tryz.prog w = .ok none w) ∨
  ∃ (j : Nat) (b : Pl) (e : MapEntry), lk E x = some b ∧ (Instr.findAsking 189 (plV x) l i).run Tryz.prog w = .ok (some (i + j, plV b)) w ∧ l[j]? = some e ∧ e.key = plV x ∧
   ∀ y : Pl, (l.modify j fun e => { e with key := plV x, val := plV y }).map ent = (st E x y).map plE
 | [], [], i, _, _ => .inl ⟨rfl, rfl⟩
 | [], _ :: _, _, h, _ => by simp at h
 | _ :: _, [], _, h, _ => by simp at h
 | e :: l, f :: E, i, h, hg => by
  simp only [List.map_cons, List.cons.injEq] at h
  obtain ⟨h1, h2⟩ := h
  have hk : e.key = plV f.1 := congrArg (·.1) h1
  have hv : e.val = plV f.2 := congrArg (·.2) h1
  have hq := run_eq_pl w x f.1 hx (hg f List.mem_cons_self)
  by_cases hxf : x = f.1
  ·right
   refine ⟨0, f.2, e, ?_, ?_, rfl, by rw [hk, hxf], fun y => ?_⟩
   ·unfold lk; rw [if_pos hxf]
   ·unfold Instr.findAsking
    simp only [Sem.run_bind, hk, hq, Result.andThen_ok]
    rw [decide_eq_true hxf, if_pos rfl, hv]
    rfl
   ·show (_ :: l).map ent = _
    unfold st
    rw [if_pos hxf]
    simp only [List.map_cons, h2]
    rfl
  ·have hfa : (Instr.findAsking 189 (plV x) (e :: l) i).run Tryz.prog w = (Instr.findAsking 189 (plV x) l (i + 1)).run Tryz.prog w := by
    conv => lhs; unfold Instr.findAsking
    simp only [Sem.run_bind, hk, hq, Result.andThen_ok]
    rw [decide_eq_false hxf, if_neg (by simp)]
   have hlk : lk (f :: E) x = lk E x := by
    conv => lhs; unfold lk
    rw [if_neg hxf]
   rcases run_find w x hx l E (i + 1) h2 (fun e he => hg e (List.mem_cons_of_mem _ he)) with ⟨a, b⟩ | ⟨j, b, e', a1, a2, a3, a4, a5⟩
   ·exact .inl ⟨by rw [hlk]; exact a, by rw [hfa]; exact b⟩
   ·refine .inr ⟨j + 1, b, e', by rw [hlk]; exact a1, by rw [hfa, a2, show i + 1 + j = i + (j + 1) by omega], by simpa using a3, a4, fun y => ?_⟩
    have := a5 y
    show (e :: l.modify j _).map ent = _
    unfold st
    rw [if_neg hxf]
    simp only [List.map_cons, this]
    rw [h1]
theorem run_look_g (m : Nat) (x : Pl) (w : World) (E : List (Pl × Pl)) (hm : MapIs w m E) (hx : GoodP w x) (hg : ∀ e ∈ E, GoodP w e.1) :
  (Instr.lookup 182 (.map (some m)) (plV x) true).run Tryz.prog w = .ok (.tuple #[match lk E x with | none => .agg #[.pointer none, .int .i64 0] | some b => plV b, .bool (lk E x).isSome]) w := by
 obtain ⟨es, clock, hm, he⟩ := hm
 have hk := run_key es.isEmpty x.1 x.2 w
 have hz : (zeroValue 189).run Tryz.prog w = .ok (.agg #[.pointer none, .int .i64 0]) w := by kernel_rfl
 have hf := Go.run_findKey_eq (P := Tryz.prog) w (k := 189) (by kernel_rfl) (plV x) es.toList
 unfold Instr.lookup
 simp only [Sem.run_bind, run_underlying Tryz.underlying182, Result.andThen_ok, Go.MapKept.run_getObj_map hm, Sem.run_pure]
 change (((Instr.checkKey _ 10000 _ (.agg #[.pointer (some x.1), .int .i64 x.2])).run _ w).andThen _) = _
 rw [hk]
 simp only [Result.andThen_ok, hf]
 rcases run_find w x hx es.toList E 0 he hg with ⟨a, b⟩ | ⟨j, b, e', a1, a2, _⟩
 ·rw [b, a]
  simp only [Result.andThen_ok, Sem.run_bind, hz, Sem.run_pure]
  rfl
 ·rw [a2, a1]
  simp only [Result.andThen_ok]
  rfl
structure SavM (m : Nat) (w w' : World) : Prop where
 os : w'.os = w.os
 tape : w'.tape = w.tape
 output : w'.output = w.output
 size : w.heap.size ≤ w'.heap.size
 block : ∀ j, j < w.heap.size → j ≠ m → w'.heap[j]? = w.heap[j]?
theorem run_put_g (m : Nat) (x y : Pl) (w : World) (E : List (Pl × Pl)) (hm : MapIs w m E) (hx : GoodP w x) (hg : ∀ e ∈ E, GoodP w e.1) :
  ∃ w', (Instr.mapUpdate 182 (.map (some m)) (plV x) (plV y)).run Tryz.prog w = .ok () w' ∧ MapIs w' m (st E x y) ∧ SavM m w w' ∧ w'.heap.size = w.heap.size := by
 obtain ⟨es, clock, hm, he⟩ := hm
 have hk := run_key false x.1 x.2 w
 have hf := Go.run_findKey_eq (P := Tryz.prog) w (k := 189) (by kernel_rfl) (plV x) es.toList
 have hml : m < w.heap.size := lt_of_heap hm
 have fin : ∀ o : Obj, SavM m w { w with heap := w.heap.setIfInBounds m o } := fun o => ⟨rfl, rfl, rfl, by simp, fun j _ hne => by
  show (w.heap.setIfInBounds m o)[j]? = _
  rw [Array.getElem?_setIfInBounds_ne (fun e => hne e.symm)]⟩
 have self : ∀ o : Obj, ({ w with heap := w.heap.setIfInBounds m o } : World).heap[m]? = some o := fun o => by
  show (w.heap.setIfInBounds m o)[m]? = _
  rw [Array.getElem?_setIfInBounds_self_of_lt hml]
 rcases run_find w x hx es.toList E 0 he hg with ⟨a, b⟩ | ⟨j, b, e', a1, a2, a3, a4, a5⟩
 ·refine ⟨{ w with heap := w.heap.setIfInBounds m (.map (es.push { key := plV x, val := plV y, born := clock }) (clock + 1)) }, ?_, ⟨_, _, self _, ?_⟩, fin _, by simp⟩
  ·unfold Instr.mapUpdate
   simp only [Sem.run_bind, run_underlying Tryz.underlying182, Result.andThen_ok, Go.MapKept.run_getObj_map hm]
   change (((Instr.checkKey _ 10000 _ (.agg #[.pointer (some x.1), .int .i64 x.2])).run _ w).andThen _) = _
   rw [hk]
   simp only [Result.andThen_ok, hf, b]
   exact Go.MapKept.run_setObj_map _ hm
  ·have hst : ∀ E : List (Pl × Pl), lk E x = none → st E x y = E ++ [(x, y)] := by
    intro E
    induction E with
    | nil => intro _; rfl
    | cons f E ih =>
     intro hn
     unfold lk at hn
     by_cases hxf : x = f.1
     ·rw [if_pos hxf] at hn; cases hn
     ·rw [if_neg hxf] at hn
      unfold st
      rw [if_neg hxf, ih hn]
      rfl
   rw [hst E a]
   simp only [Array.toList_push, List.map_append, List.map_cons, List.map_nil, he]
   rfl
 ·have hsb : Instr.sameBits 10000 e'.key (plV x) = true := by
   rw [a4]
   simp [plV, Instr.sameBits]
  refine ⟨{ w with heap := w.heap.setIfInBounds m (.map (es.modify j fun e => { e with key := plV x, val := plV y }) clock) }, ?_, ⟨_, _, self _, ?_⟩, fin _, by simp⟩
  ·unfold Instr.mapUpdate
   simp only [Sem.run_bind, run_underlying Tryz.underlying182, Result.andThen_ok, Go.MapKept.run_getObj_map hm]
   change (((Instr.checkKey _ 10000 _ (.agg #[.pointer (some x.1), .int .i64 x.2])).run _ w).andThen _) = _
   rw [hk]
   simp only [Result.andThen_ok, hf, a2, Nat.zero_add]
   have hej : es[j]? = some e' := by simpa using a3
   have hks : (Instr.keyThatStays (((es[j]?).map (·.key)).getD (plV x)) (plV x)).run Tryz.prog w = .ok (plV x) w := by
    unfold Instr.keyThatStays
    rw [hej]
    simp only [Option.map_some, Option.getD_some, hsb, if_true, Sem.run_pure]
   simp only [Sem.run_bind, hks, Result.andThen_ok]
   exact Go.MapKept.run_setObj_map _ hm
  ·rw [Array.toList_modify, a5 y]
theorem GoodP.lt {w : World} {p : Pl} (h : GoodP w p) : p.1.block < w.heap.size := by
 obtain ⟨c, t, h⟩ := h
 exact lt_of_heap h
theorem MapIs.lt {w : World} {m : Nat} {E : List (Pl × Pl)} (h : MapIs w m E) : m < w.heap.size := by
 obtain ⟨c, t, h, _⟩ := h
 exact lt_of_heap h
theorem GoodP.ne {w : World} {p : Pl} {m : Nat} {E : List (Pl × Pl)} (h : GoodP w p) (hm : MapIs w m E) : p.1.block ≠ m := by
 obtain ⟨c, t, h⟩ := h
 obtain ⟨c2, t2, h2, _⟩ := hm
 intro e
 rw [e, h2] at h
 cases h
theorem GoodP.sav {w w' : World} {p : Pl} {m : Nat} (h : GoodP w p) (hne : p.1.block ≠ m) (hs : SavM m w w') : GoodP w' p := by
 have hl := h.lt
 obtain ⟨c, t, h⟩ := h
 exact ⟨c, t, by rw [hs.block _ hl hne]; exact h⟩
theorem MapIs.of_block {w w' : World} {m : Nat} {E : List (Pl × Pl)} (h : MapIs w m E) (e : w'.heap[m]? = w.heap[m]?) : MapIs w' m E := by
 obtain ⟨c, t, h, h2⟩ := h
 exact ⟨c, t, by rw [e]; exact h, h2⟩
theorem SavM.trans {m : Nat} {a b c : World} (h : SavM m a b) (h' : SavM m b c) : SavM m a c :=
 ⟨h'.os.trans h.os, h'.tape.trans h.tape, h'.output.trans h.output, Nat.le_trans h.size h'.size, fun j hj hne => (h'.block j (Nat.lt_of_lt_of_le hj h.size) hne).trans (h.block j hj hne)⟩
theorem SavM.of_below {m : Nat} {a b : World} (h : Below a.heap.size a b) : SavM m a b := ⟨h.os, h.tape, h.output, h.size, fun j hj _ => h.block j hj⟩
theorem SavM.below {m : Nat} {a b c : World} (h : SavM m a b) (h' : Below a.heap.size b c) : SavM m a c :=
 ⟨h'.os.trans h.os, h'.tape.trans h.tape, h'.output.trans h.output, Nat.le_trans h.size h'.size, fun j hj hne => (h'.block j hj).trans (h.block j hj hne)⟩
theorem SavM.cell {m : Nat} {a b : World} (h : SavM m a b) {j o : Nat} {v : Value} (hc : a.cell? ⟨j, o, none⟩ = some v) (hne : j ≠ m) : b.cell? ⟨j, o, none⟩ = some v := by
 rw [cell_congr (h.block j (World.block_lt_of_cell? a _ hc) hne)]; exact hc
theorem SavM.frz {m : Nat} {a b : World} (h : SavM m a b) {j o : Nat} (hl : j < a.heap.size) (hc : a.frozen? ⟨j, o, none⟩ = false) (hne : j ≠ m) : b.frozen? ⟨j, o, none⟩ = false := by
 rw [World.frozen?_of_block (a := ⟨j, o, none⟩) (h.block j hl hne)]; exact hc
structure LastP (A : Pl → Prop) (w w' : World) (m : Nat) (E E' : List (Pl × Pl)) (x y : Pl) (r : Pl → Nat) (cl : Pl → Pl) (R : Nat) : Prop where
 map : MapIs w' m E'
 sav : SavM m w w'
 inv : Inv r cl E'
 good : ∀ e ∈ E', A e.1 ∧ A e.2
 bnd : ∀ e ∈ E', r e.2 ≤ R
 keys : ∀ p, lk E' p = none ↔ lk E p = none
 root : lk E' y = none
 goody : A y
 cls : cl y = cl x
def LastRel (A : Pl → Prop) (w : World) (m : Nat) (E : List (Pl × Pl)) (x : Pl) (r : Pl → Nat) (cl : Pl → Pl) (R : Nat) (k : Nat) (wr : World) : Prop :=
 ∃ (E' : List (Pl × Pl)) (ya : Addr) (yn : Int), k = R + 1 - r (ya, yn) ∧ r (ya, yn) ≤ R ∧
  (wr.cell? ⟨w.heap.size, 0, none⟩ = some (.pointer (some ya)) ∧ wr.cell? ⟨w.heap.size, 1, none⟩ = some (.int .i64 yn)) ∧ (wr.frozen? ⟨w.heap.size, 0, none⟩ = false ∧ wr.frozen? ⟨w.heap.size, 1, none⟩ = false) ∧
  (wr.cell? ⟨w.heap.size + 1, 0, none⟩ = some (.pointer none) ∧ wr.cell? ⟨w.heap.size + 1, 1, none⟩ = some (.int .i64 0)) ∧ (wr.frozen? ⟨w.heap.size + 1, 0, none⟩ = false ∧ wr.frozen? ⟨w.heap.size + 1, 1, none⟩ = false) ∧
  Hid (MapIs wr m E' ∧ SavM m w wr ∧ w.heap.size + 2 ≤ wr.heap.size ∧ Inv r cl E' ∧ (∀ e ∈ E', A e.1 ∧ A e.2) ∧ (∀ e ∈ E', r e.2 ≤ R) ∧ (∀ p, lk E' p = none ↔ lk E p = none) ∧ A (ya, yn) ∧ cl (ya, yn) = cl x)
theorem last_g (m : Nat) (E : List (Pl × Pl)) (xa : Addr) (xn : Int) (r : Pl → Nat) (cl : Pl → Pl) (R : Nat) (w : World) (A : Pl → Prop) (hA : ∀ p, A p → GoodP w p) (hm : MapIs w m E) (hg : ∀ e ∈ E, A e.1 ∧ A e.2) (hx : A (xa, xn)) (hI : Inv r cl E) (hR : ∀ e ∈ E, r e.2 ≤ R) (hxR : r (xa, xn) ≤ R) :
  Calls Tryz.prog 169 #[.map (some m), .agg #[.pointer (some xa), .int .i64 xn]] w fun e w' => ∃ E' ya yn, e = .returned (.agg #[.pointer (some ya), .int .i64 yn]) ∧ LastP A w w' m E E' (xa, xn) (ya, yn) r cl R := by
 have HA := Lib.hid hA
 have HM := Lib.hid (And.intro hm (And.intro hg (And.intro hx (And.intro hI hR))))
 have hml := hm.lt
 have HMX := Lib.hid hml
 clear hA hm hg hx hI hR hml
 go_enter Tryz.func169, Tryz.ntmps169
 go_wp2_with fail
 go_loopg [5] (R + 1 - r (xa, xn)) (fun k _ wr => LastRel A w m E (xa, xn) r cl R k wr)
 case atStart =>
  have hml := HMX.out
  refine ⟨E, xa, xn, rfl, hxR, ⟨?_, ?_⟩, ⟨?_, ?_⟩, ⟨?_, ?_⟩, ⟨?_, ?_⟩, Lib.hid ⟨HM.out.1.of_block ?_, SavM.of_below (((Below.refl _ _).alloc (Nat.le_refl _) _).alloc (by simp) _), by simp, HM.out.2.2.2.1, HM.out.2.1, HM.out.2.2.2.2, fun _ => Iff.rfl, HM.out.2.2.1, rfl⟩⟩
  ·go_simp
  ·go_simp
  ·go_simp
  ·go_simp
  ·go_simp
  ·go_simp
  ·go_simp
  ·go_simp
  ·rw [heap_alloc_old _ _ (by simp; omega), heap_alloc_old _ _ hml]
 case round =>
  obtain ⟨E', ya, yn, hk, hyR, ⟨c0, c1⟩, ⟨z0, z1⟩, ⟨d0, d1⟩, ⟨y0, y1⟩, HH⟩ := hrel
  have hsv := HH.out.2.1
  have hgw : ∀ p : Pl, A p → GoodP wr p := fun p hp => (HA.out p hp).sav ((HA.out p hp).ne HM.out.1) hsv
  have hgE : ∀ e ∈ E', GoodP wr e.1 := fun e he => hgw _ (HH.out.2.2.2.2.1 e he).1
  have hyg : GoodP wr (ya, yn) := hgw _ HH.out.2.2.2.2.2.2.2.1
  have hl := run_look_g m (ya, yn) wr E' HH.out.1 hyg hgE
  unfold plV at hl
  have HG := Lib.hid (And.intro hgw (And.intro hgE hyg))
  have HK := Lib.hid hk
  have hbs : w.heap.size < wr.heap.size ∧ w.heap.size + 1 < wr.heap.size := ⟨by have := HH.out.2.2.1; omega, by have := HH.out.2.2.1; omega⟩
  obtain ⟨hb0, hb1⟩ := hbs
  clear hsv hgw hgE hyg hk
  cases hlk : lk E' (ya, yn) with
  | none =>
   rw [hlk] at hl
   simp only [Option.isSome_none] at hl
   have HLK := Lib.hid hlk
   clear hlk
   go_wp2_with fail
   have hml := HMX.out
   have hBl : Below w.heap.size wr (((wr.setCell ⟨w.heap.size + 1, 0, none⟩ (.pointer (some ya))).setCell ⟨w.heap.size + 1, 1, none⟩ (.int .i64 yn)).alloc (.cells #[.pointer none, .int .i64 0] 189)) :=
    (((Below.refl _ _).setCell (by simp) _).setCell (by simp) _).alloc (by have := HH.out.2.2.1; simp; omega) _
   have t0 : (((wr.setCell ⟨w.heap.size + 1, 0, none⟩ (.pointer (some ya))).setCell ⟨w.heap.size + 1, 1, none⟩ (.int .i64 yn)).alloc (.cells #[.pointer none, .int .i64 0] 189)).cell? ⟨w.heap.size + 1, 0, none⟩ = some (.pointer (some ya)) := by go_simp
   have t1 : (((wr.setCell ⟨w.heap.size + 1, 0, none⟩ (.pointer (some ya))).setCell ⟨w.heap.size + 1, 1, none⟩ (.int .i64 yn)).alloc (.cells #[.pointer none, .int .i64 0] 189)).cell? ⟨w.heap.size + 1, 1, none⟩ = some (.int .i64 yn) := by go_simp
   generalize ((wr.setCell ⟨w.heap.size + 1, 0, none⟩ (.pointer (some ya))).setCell ⟨w.heap.size + 1, 1, none⟩ (.int .i64 yn)).alloc (.cells #[.pointer none, .int .i64 0] 189) = W3 at *
   obtain ⟨h1, h2, h3, h4, h5, h6, h7, h8, h9⟩ := HH.out
   exact bodyPost_ret (v := .agg #[.pointer (some ya), .int .i64 yn]) (by simp [results, Tryz.results169, go_sem, t0, t1]) rfl ⟨E', ya, yn, rfl, ⟨h1.of_block (hBl.block m hml), h2.below hBl, h4, h5, h6, h7, HLK.out, h8, h9⟩⟩
  | some b =>
   obtain ⟨ba, bn⟩ := b
   rw [hlk] at hl
   simp only [Option.isSome_some] at hl
   have hmem := lk_mem _ _ _ hlk
   have hbg : GoodP wr (ba, bn) := HG.out.1 _ (HH.out.2.2.2.2.1 _ hmem).2
   have hrb : r (ya, yn) < r (ba, bn) ∧ cl (ya, yn) = cl (ba, bn) := HH.out.2.2.2.1.1 _ hmem
   have hrR : r (ba, bn) ≤ R := HH.out.2.2.2.2.2.1 _ hmem
   have hal : ∀ (W : World) (ty : TypeId), m < W.heap.size → ∀ o, (W.alloc (.cells o ty)).heap[m]? = W.heap[m]? := fun W ty h o => heap_alloc_old _ _ h
   have hmw : m < wr.heap.size := HH.out.1.lt
   have hmne : m ≠ w.heap.size ∧ m ≠ w.heap.size + 1 := ⟨by have := HMX.out; omega, by have := HMX.out; omega⟩
   have hgd : ∀ (W : World) (p : Pl), Below wr.heap.size wr W → GoodP wr p → GoodP W p := fun W p hb hp => hp.sav (hp.ne HH.out.1) (SavM.of_below hb)
   have hl2 := run_look_g m (ba, bn) (wr.alloc (.cells #[.pointer (some ba), .int .i64 bn] 189)) E' (HH.out.1.of_block (hal _ _ hmw _)) (hgd _ _ ((Below.refl _ _).alloc (Nat.le_refl _) _) hbg) (fun e he => hgd _ _ ((Below.refl _ _).alloc (Nat.le_refl _) _) (HG.out.2.1 e he))
   unfold plV at hl2
   have HLK := Lib.hid (And.intro hlk (And.intro hrb (And.intro hrR hmem)))
   have HX := Lib.hid (And.intro hbg (And.intro hal (And.intro hmw (And.intro hmne hgd))))
   clear hlk hmem hbg hrb hrR hal hmw hmne hgd
   cases hlk2 : lk E' (ba, bn) with
   | none =>
    rw [hlk2] at hl2
    simp only [Option.isSome_none] at hl2
    clear hlk2
    go_wp2_with fail
    go_roundg (R + 1 - r (ba, bn))
    case measure =>
     have := HK.out
     have := HLK.out.2.1.1
     have := HLK.out.2.2.1
     omega
    case rel =>
     have hml := HMX.out
     obtain ⟨h1, h2, h3, h4, h5, h6, h7, h8, h9⟩ := HH.out
     have hBl : Below w.heap.size wr ((((wr.setCell ⟨w.heap.size, 0, none⟩ (.pointer (some ba))).setCell ⟨w.heap.size, 1, none⟩ (.int .i64 bn)).alloc (.cells #[.pointer (some ba), .int .i64 bn] 189)).alloc (.cells #[.pointer none, .int .i64 0] 189)) :=
      ((((Below.refl _ _).setCell (by simp) _).setCell (by simp) _).alloc (by simp; omega) _).alloc (by simp; omega) _
     refine ⟨E', ba, bn, rfl, HLK.out.2.2.1, ⟨?_, ?_⟩, ⟨?_, ?_⟩, ⟨?_, ?_⟩, ⟨?_, ?_⟩, Lib.hid ⟨h1.of_block (hBl.block m hml), h2.below hBl, by have := hBl.size; simp; omega, h4, h5, h6, h7, (h5 _ HLK.out.2.2.2).2, HLK.out.2.1.2.symm.trans h9⟩⟩
     all_goals go_simp
   | some c =>
    obtain ⟨ca, cn⟩ := c
    rw [hlk2] at hl2
    simp only [Option.isSome_some] at hl2
    have HLK2 := Lib.hid hlk2
    clear hlk2
    obtain ⟨w3, hp, hmp, hsp, hzp⟩ := run_put_g m (ya, yn) (ca, cn) ((wr.alloc (.cells #[.pointer (some ba), .int .i64 bn] 189)).alloc (.cells #[.pointer (some ca), .int .i64 cn] 189)) E' (HH.out.1.of_block (by rw [HX.out.2.1 _ _ (by simp; have := HX.out.2.2.1; omega), HX.out.2.1 _ _ HX.out.2.2.1])) (HX.out.2.2.2.2 _ _ (((Below.refl _ _).alloc (Nat.le_refl _) _).alloc (by simp) _) HG.out.2.2) (fun e he => HX.out.2.2.2.2 _ _ (((Below.refl _ _).alloc (Nat.le_refl _) _).alloc (by simp) _) (HG.out.2.1 e he))
    unfold plV at hp
    have k0 : w3.cell? ⟨w.heap.size, 0, none⟩ = some (.pointer (some ya)) := hsp.cell (by go_simp) HX.out.2.2.2.1.1.symm
    have k1 : w3.cell? ⟨w.heap.size, 1, none⟩ = some (.int .i64 yn) := hsp.cell (by go_simp) HX.out.2.2.2.1.1.symm
    have k2 : w3.frozen? ⟨w.heap.size, 0, none⟩ = false := hsp.frz (by simp; omega) (by go_simp) HX.out.2.2.2.1.1.symm
    have k3 : w3.frozen? ⟨w.heap.size, 1, none⟩ = false := hsp.frz (by simp; omega) (by go_simp) HX.out.2.2.2.1.1.symm
    have hnm : wr.heap.size ≠ m := by have := HX.out.2.2.1; omega
    have k4 : w3.cell? ⟨wr.heap.size, 0, none⟩ = some (.pointer (some ba)) := hsp.cell (by go_simp) hnm
    have k5 : w3.cell? ⟨wr.heap.size, 1, none⟩ = some (.int .i64 bn) := hsp.cell (by go_simp) hnm
    have k6 : w3.cell? ⟨w.heap.size + 1, 0, none⟩ = some (.pointer none) := hsp.cell (by go_simp) HX.out.2.2.2.1.2.symm
    have k7 : w3.cell? ⟨w.heap.size + 1, 1, none⟩ = some (.int .i64 0) := hsp.cell (by go_simp) HX.out.2.2.2.1.2.symm
    have k8 : w3.frozen? ⟨w.heap.size + 1, 0, none⟩ = false := hsp.frz (by simp; omega) (by go_simp) HX.out.2.2.2.1.2.symm
    have k9 : w3.frozen? ⟨w.heap.size + 1, 1, none⟩ = false := hsp.frz (by simp; omega) (by go_simp) HX.out.2.2.2.1.2.symm
    have HS3 := Lib.hid (And.intro hmp (And.intro hsp hzp))
    clear hmp hsp hzp hnm
    go_wp2_with fail
    go_roundg (R + 1 - r (ba, bn))
    case measure =>
     have := HK.out
     have := HLK.out.2.1.1
     have := HLK.out.2.2.1
     omega
    case rel =>
     have hml := HMX.out
     obtain ⟨h1, h2, h3, h4, h5, h6, h7, h8, h9⟩ := HH.out
     have hs3 := HS3.out.2.2
     simp at hs3
     have hB2 : Below w.heap.size wr ((wr.alloc (.cells #[.pointer (some ba), .int .i64 bn] 189)).alloc (.cells #[.pointer (some ca), .int .i64 cn] 189)) :=
      ((Below.refl _ _).alloc (by omega) _).alloc (by simp; omega) _
     have hBl : Below w.heap.size w3 ((w3.setCell ⟨w.heap.size, 0, none⟩ (.pointer (some ba))).setCell ⟨w.heap.size, 1, none⟩ (.int .i64 bn)) := ((Below.refl _ _).setCell (by simp) _).setCell (by simp) _
     have hsv : SavM m w w3 := by
      refine ⟨HS3.out.2.1.os.trans (h2.below hB2).os, HS3.out.2.1.tape.trans (h2.below hB2).tape, HS3.out.2.1.output.trans (h2.below hB2).output, by omega, fun j hj hne => ?_⟩
      rw [HS3.out.2.1.block j (by simp; omega) hne]
      exact (h2.below hB2).block j hj hne
     refine ⟨st E' (ya, yn) (ca, cn), ba, bn, rfl, HLK.out.2.2.1, ⟨?_, ?_⟩, ⟨?_, ?_⟩, ⟨?_, ?_⟩, ⟨?_, ?_⟩, Lib.hid ⟨HS3.out.1.of_block (hBl.block m hml), hsv.below hBl, by have := hBl.size; omega, h4.half HLK.out.1 HLK2.out, fun e he => ?_, fun e he => ?_, fun p => ?_, (h5 _ HLK.out.2.2.2).2, HLK.out.2.1.2.symm.trans h9⟩⟩
     ·go_simp
     ·go_simp
     ·go_simp
     ·go_simp
     ·go_simp
     ·go_simp
     ·go_simp
     ·go_simp
     ·rcases st_mem _ _ _ _ he with rfl | he
      ·exact ⟨h8, (h5 ((ba, bn), (ca, cn)) (lk_mem _ _ _ HLK2.out)).2⟩
      ·exact h5 e he
     ·rcases st_mem _ _ _ _ he with rfl | he
      ·exact h6 ((ba, bn), (ca, cn)) (lk_mem _ _ _ HLK2.out)
      ·exact h6 e he
     ·rw [lk_st, ← h7 p]
      by_cases hp : p = (ya, yn)
      ·rw [if_pos hp, hp, HLK.out.1]
       simp
      ·rw [if_neg hp]
end Go.Proofs.YtlpgphiccjkenaaGreatDoor
