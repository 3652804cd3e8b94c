/-
  The contracts of the reference's AddNode and DropNode.
-/
import Derived.Test.YtmamepmfbfinlaaGreatDoorRosG
import Derived.Test.YtmamepmfbfinlaaGreatDoorRosE
namespace Go.Proofs.YtmamepmfbfinlaaGreatDoor
open Go.RowKit

theorem app_nil_run {P : Program} {w : World} (t ty e : TypeId) (i : TypeInfo) (ht : P.underlying t = some (.slice e)) (hi : P.info? e = some i) :
    (Builtin.append_ #[t, t] ty #[.slice none 0 0, .slice none 0 0]).run P w = .ok (.slice none 0 0) w := by
  simp [Builtin.append_, run_underlying ht, sizeOf, typeInfo, hi, Builtin.lenOf, run_firstCells_none]

/-- Numbers onto a list of the call's own. -/
theorem op_app1 {K : Act → World → Prop} {Q : Exit → Act → World → Prop} {o : Oper} {a : Act} {w : World} (sl y : Operand)
    (ho : o.op = .call { callee := .builtin .append, args := #[sl, y], argTypes := #[22, 22] })
    (B : Nat) (v : Value) (l : List Int) (hs : a.eval sl = v) (hown : IOwn w B v l) (g of c : Nat) (l2 : List Int) (hx : a.eval y = .slice (some ⟨g, of, none⟩) l2.length c) (h2 : IAt w g of l2)
    (h1 : l.length ≤ 10000) (hn2 : l2.length ≤ 10000) (hB : B ≤ w.heap.size)
    (h : ∀ ad c w', IOwn w' B (.slice ad (l ++ l2).length c) (l ++ l2) → w.grownBy w' v.ownBlock → ((Value.slice ad (l ++ l2).length c).ownBlock = v.ownBlock ∨ (Value.slice ad (l ++ l2).length c).ownBlock = some w.heap.size) → K (a.put o.dst (.slice ad (l ++ l2).length c)) w') :
    Oper.wp Tryz.prog o a w K Q := by
  obtain ⟨i0, hi, hz0, hz1, hz2⟩ := int_info
  obtain ⟨v', w', hr, k2, k3, _, k5⟩ := run_append_own_at (P := Tryz.prog) w B 22 o.type 3 i0 _ 1 8 Tryz.underlying22 hi hz0 hz1 hz2 rfl (by decide) v l.length (icells l) hown ⟨g, of, none⟩ l2.length c (icells l2) (icells_length l2) h2.cells (icells_one l2) (by unfold maxLen; omega) (by omega) hB
  have ho2 : IOwn w' B v' (l ++ l2) := by
    unfold IOwn
    rw [icells_append, List.length_append]
    exact k2
  obtain ⟨ad, c', rfl⟩ := ho2.shape
  unfold Oper.wp execOp
  simp only [ho, resolve, invoke, builtin, Sem.run_bind, Sem.run_pure, Result.andThen_ok, List.map_toArray, List.map_cons, List.map_nil, hs, hx, hr]
  exact h ad c' w' ho2 k3 k5

/-- Numbers onto none. -/
theorem op_app0 {K : Act → World → Prop} {Q : Exit → Act → World → Prop} {o : Oper} {a : Act} {w : World} (y : Operand)
    (ho : o.op = .call { callee := .builtin .append, args := #[.const (.slice none 0 0), y], argTypes := #[22, 22] })
    (v2 : Value) (l2 : List Int) (hx : a.eval y = v2) (h2 : IsAt w v2 l2) (hn2 : l2.length ≤ 10000)
    (h : ∀ ad c w', IOwn w' w.heap.size (.slice ad l2.length c) l2 → Below w.heap.size w w' → K (a.put o.dst (.slice ad l2.length c)) w') :
    Oper.wp Tryz.prog o a w K Q := by
  rcases h2 with ⟨rfl, rfl⟩ | ⟨g, of, c, rfl, _, _, _, h4⟩
  · obtain ⟨i0, hi, _⟩ := int_info
    have hr := app_nil_run (P := Tryz.prog) (w := w) 22 o.type 3 i0 Tryz.underlying22 hi
    unfold Oper.wp execOp
    simp only [ho, resolve, invoke, builtin, Sem.run_bind, Sem.run_pure, Result.andThen_ok, List.map_toArray, List.map_cons, List.map_nil, hx, show a.eval (.const (.slice none 0 0)) = .slice none 0 0 from rfl, hr]
    exact h none 0 w (IOwn.nil _ _) (Below.refl _ _)
  · refine op_app1 (.const (.slice none 0 0)) y ho w.heap.size (.slice none 0 0) [] rfl (IOwn.nil _ _) g of c l2 hx h4 (by simp) hn2 (Nat.le_refl _) ?_
    intro ad c' w' hown hgrow _
    rw [List.nil_append] at hown ⊢
    exact h ad c' w' hown ((Below.refl _ _).grown hgrow (Nat.le_refl _) (by intro j hj; simp [Value.ownBlock] at hj))

end Go.Proofs.YtmamepmfbfinlaaGreatDoor
