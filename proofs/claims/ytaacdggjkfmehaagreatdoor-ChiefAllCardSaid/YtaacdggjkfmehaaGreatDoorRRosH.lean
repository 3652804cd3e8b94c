/-
  Contracts of the program, and what they rest on.
-/
import Derived.Test.YtaacdggjkfmehaaGreatDoorM03
import Derived.Test.YtaacdggjkfmehaaGreatDoorM02
import Derived.Test.YtaacdggjkfmehaaGreatDoorRRosG
namespace Go.Proofs.YtaacdggjkfmehaaGreatDoor
open Go.RowKit
theorem app_nil_run {P : Program} {w : World} (t ty e : TypeId) (i : TypeInfo) (ht : P.underlying t = some (.slice e)) (hi : P.info? e = some i) :
    (Builtin.append_ #[t, t] ty #[.slice none 0 0, .slice none 0 0]).run P w = .ok (.slice none 0 0) w := by
  simp [Builtin.append_, run_underlying ht, sizeOf, typeInfo, hi, Builtin.lenOf, run_firstCells_none]
theorem op_app1 {K : Act → World → Prop} {Q : Exit → Act → World → Prop} {o : Oper} {a : Act} {w : World} (sl y : Operand)
    (ho : o.op = .call { callee := .builtin .append, args := #[sl, y], argTypes := #[22, 22] })
    (B : Nat) (v : Value) (l : List Int) (hs : a.eval sl = v) (hown : IOwn w B v l) (g of c : Nat) (l2 : List Int) (hx : a.eval y = .slice (some ⟨g, of, none⟩) l2.length c) (h2 : IAt w g of l2)
    (h1 : l.length ≤ 10000) (hn2 : l2.length ≤ 10000) (hB : B ≤ w.heap.size)
    (h : ∀ ad c w', IOwn w' B (.slice ad (l ++ l2).length c) (l ++ l2) → w.grownBy w' v.ownBlock → ((Value.slice ad (l ++ l2).length c).ownBlock = v.ownBlock ∨ (Value.slice ad (l ++ l2).length c).ownBlock = some w.heap.size) → K (a.put o.dst (.slice ad (l ++ l2).length c)) w') :
    Oper.wp Tryz.prog o a w K Q := by
  obtain ⟨i0, hi, hz0, hz1, hz2⟩ := int_info
  obtain ⟨v', w', hr, k2, k3, _, k5⟩ := run_append_own_at (P := Tryz.prog) w B 22 o.type 3 i0 _ 1 8 Tryz.underlying22 hi hz0 hz1 hz2 rfl (by decide) v l.length (icells l) hown ⟨g, of, none⟩ l2.length c (icells l2) (icells_length l2) h2.cells (icells_one l2) (by unfold maxLen; omega) (by omega) hB
  have ho2 : IOwn w' B v' (l ++ l2) := by
    unfold IOwn
    rw [icells_append, List.length_append]
    exact k2
  obtain ⟨ad, c', rfl⟩ := ho2.shape
  unfold Oper.wp execOp
  simp only [ho, resolve, invoke, builtin, Sem.run_bind, Sem.run_pure, Result.andThen_ok, List.map_toArray, List.map_cons, List.map_nil, hs, hx, hr]
  exact h ad c' w' ho2 k3 k5
theorem op_app0 {K : Act → World → Prop} {Q : Exit → Act → World → Prop} {o : Oper} {a : Act} {w : World} (y : Operand)
    (ho : o.op = .call { callee := .builtin .append, args := #[.const (.slice none 0 0), y], argTypes := #[22, 22] })
    (v2 : Value) (l2 : List Int) (hx : a.eval y = v2) (h2 : IsAt w v2 l2) (hn2 : l2.length ≤ 10000)
    (h : ∀ ad c w', IOwn w' w.heap.size (.slice ad l2.length c) l2 → Below w.heap.size w w' → K (a.put o.dst (.slice ad l2.length c)) w') :
    Oper.wp Tryz.prog o a w K Q := by
  rcases h2 with ⟨rfl, rfl⟩ | ⟨g, of, c, rfl, _, _, _, h4⟩
  · obtain ⟨i0, hi, _⟩ := int_info
    have hr := app_nil_run (P := Tryz.prog) (w := w) 22 o.type 3 i0 Tryz.underlying22 hi
    unfold Oper.wp execOp
    simp only [ho, resolve, invoke, builtin, Sem.run_bind, Sem.run_pure, Result.andThen_ok, List.map_toArray, List.map_cons, List.map_nil, hx, show a.eval (.const (.slice none 0 0)) = .slice none 0 0 from rfl, hr]
    exact h none 0 w (IOwn.nil _ _) (Below.refl _ _)
  · refine op_app1 (.const (.slice none 0 0)) y ho w.heap.size (.slice none 0 0) [] rfl (IOwn.nil _ _) g of c l2 hx h4 (by simp) hn2 (Nat.le_refl _) ?_
    intro ad c' w' hown hgrow _
    rw [List.nil_append] at hown ⊢
    exact h ad c' w' hown ((Below.refl _ _).grown hgrow (Nat.le_refl _) (by intro j hj; simp [Value.ownBlock] at hj))
set_option maxRecDepth 100000 in
set_option maxHeartbeats 16000000 in
theorem raddn_p (e nw n : Int) (v : Value) (l : List Int) (w : World) (h : IsAt w v l) (hn : l.length ≤ 900) (hep : -9223372036854775808 ≤ e ∧ e < 9223372036854775807) :
    Calls Tryz.prog 40 #[.agg #[.int .i64 e, v, .int .i64 nw], .int .i64 n] w (RoOut (addR ⟨e, l, nw⟩ n) w) := by
  obtain ⟨ad, cap, rfl, _⟩ := h.shape
  have HT := Lib.hid (twoB_new w e nw ad cap l h)
  obtain ⟨R, hR⟩ : ∃ R, addR ⟨e, l, nw⟩ n = R := ⟨_, rfl⟩
  rw [hR]
  unfold addR at hR
  dsimp only at hR
  have HR := Lib.hid hR
  have hw1 : IntKind.i64.wrap (e + 1) = e + 1 := IntWalk.i64_in _ (by omega)
  have HVL : Hid (∀ j, (Value.slice ad l.length cap).ownBlock = some j → j < w.heap.size) := Lib.hid (fun j hj => by
    rcases h with ⟨e0, _⟩ | ⟨g', o', c', e0, _, _, h3, _⟩
    · rw [e0] at hj; cases hj
    · rw [e0] at hj; cases hj; exact h3)
  clear h hR hep
  go_enter Tryz.func40, Tryz.ntmps40
  go_wp2_with fail
  generalize ((w.alloc (.cells #[.int .i64 e, .slice ad l.length cap, .int .i64 nw] 24)).alloc (.cells #[.int .i64 0, .slice none 0 0, .int .i64 0] 24)) = W at *
  obtain ⟨⟨c0, c1, c2⟩, _⟩ := HT.out.a
  have HS : Hid (∀ Y, Below W.heap.size W Y → Y.cell? ⟨w.heap.size, 0, none⟩ = some (.int .i64 e) ∧ Y.cell? ⟨w.heap.size, 1, none⟩ = some (.slice ad l.length cap) ∧ Y.cell? ⟨w.heap.size, 2, none⟩ = some (.int .i64 nw)) := Lib.hid (fun Y hY => (HT.out.below hY).a.1)
  have HX0 : Hid (Below W.heap.size W W.drew) := Lib.hid (Below.refl _ _).drew
  have hS0 := HS.out _ HX0.out
  clear c0 c1 c2
  refine wp_region_held_drew (S := fun Y => Y.cell? ⟨w.heap.size, 0, none⟩ = some (.int .i64 e) ∧ Y.cell? ⟨w.heap.size, 1, none⟩ = some (.slice ad l.length cap) ∧ Y.cell? ⟨w.heap.size, 2, none⟩ = some (.int .i64 nw)) (by kernel_rfl) hS0 (fun _ => ?_)
  refine wpAnyH_take (i := 0) (v := Value.pointer (some ⟨w.heap.size, 0, none⟩)) rfl (by kernel_rfl) (by kernel_rfl) (by kernel_rfl) (fun _ _ _ h => h) (Or.inl ⟨by rfl, ?_⟩) hS0 ?_
  · intro w' ⟨s0, s1, s2⟩; go_simp
  refine wpAnyH_take (i := 1) (v := Value.int .i64 e) rfl (by kernel_rfl) (by kernel_rfl) (by kernel_rfl) (fun _ _ _ h => h) (Or.inl ⟨by rfl, ?_⟩) hS0 ?_
  · intro w' ⟨s0, s1, s2⟩; go_simp
  refine wpAnyH_take (i := 2) (v := Value.int .i64 (e + 1)) rfl (by kernel_rfl) (by kernel_rfl) (by kernel_rfl) (fun _ _ _ h => h) (Or.inl ⟨by rfl, ?_⟩) hS0 ?_
  · intro w' ⟨s0, s1, s2⟩; go_simp
  refine wpAnyH_take (i := 3) (v := Value.pointer (some ⟨w.heap.size, 1, none⟩)) rfl (by kernel_rfl) (by kernel_rfl) (by kernel_rfl) (fun _ _ _ h => h) (Or.inl ⟨by rfl, ?_⟩) hS0 ?_
  · intro w' ⟨s0, s1, s2⟩; go_simp
  refine wpAnyH_take (i := 4) (v := Value.slice ad l.length cap) rfl (by kernel_rfl) (by kernel_rfl) (by kernel_rfl) (fun _ _ _ h => h) (Or.inl ⟨by rfl, ?_⟩) hS0 ?_
  · intro w' ⟨s0, s1, s2⟩; go_simp
  refine wpAnyH_take (i := 6) (v := Value.int .i64 n) rfl (by kernel_rfl) (by kernel_rfl) (by kernel_rfl) (fun _ _ _ h => h) (Or.inl ⟨by rfl, ?_⟩) hS0 ?_
  · intro w' ⟨s0, s1, s2⟩; go_simp
  refine wpAnyH_take (i := 9) (v := Value.int .i64 n) rfl (by kernel_rfl) (by kernel_rfl) (by kernel_rfl) (fun _ _ _ h => h) (Or.inl ⟨by rfl, ?_⟩) hS0 ?_
  · intro w' ⟨s0, s1, s2⟩; go_simp
  simp only [List.getElem_toArray, List.getElem_cons_succ, List.getElem_cons_zero, Act.put, List.setIfInBounds_toArray, List.set_cons_zero, List.set_cons_succ]
  clear hS0
  generalize W.drew = Y0 at *
  refine wpAnyH_ready (rs := [5, 7, 11]) (by kernel_rfl) (by simp) ?_
  refine (AllReadyH.cons rfl (fun K hK => ?ara) (AllReadyH.cons rfl (fun K hK => ?arb) (AllReadyH.cons rfl (fun K hK => ?arc) AllReadyH.nil)))
  case' ara =>
    simp only [List.getElem_toArray, List.getElem_cons_succ, List.getElem_cons_zero]
    rw [if_pos (by rfl)]
    refine op_app0 (.tmp 11) rfl (.slice ad l.length cap) l (by rfl) (HT.out.below HX0.out).v (by omega) ?_
    intro a5 c5 Y1 ho5 hy
    have HX1 := Lib.hid (HX0.out.trans (hy.mono HX0.out.size))
    have HO5 : Hid (IOwn Y1 W.heap.size (.slice a5 l.length c5) l) := Lib.hid (ho5.mono HX0.out.size)
    have HN5 : Hid (∀ j, (Value.slice a5 l.length c5).ownBlock = some j → j = j) := Lib.hid (fun j hj => by
      have h1 := (ho5.lt hj).1
      omega)
    refine hK.out _ _ (HS.out _ HX1.out) (fun _ => ?_)
    clear hK hy ho5
    simp only [Act.put, List.setIfInBounds_toArray, List.set_cons_zero, List.set_cons_succ]
    refine wpAnyH_ready (rs := [7, 11]) (by kernel_rfl) (by simp) ?_
    refine (AllReadyH.cons rfl (fun K hK => ?araa) (AllReadyH.cons rfl (fun K hK => ?arab) AllReadyH.nil))
    case' araa =>
      simp only [List.getElem_toArray, List.getElem_cons_succ, List.getElem_cons_zero]
      go_simp
      have hy : Below Y1.heap.size Y1 (Y1.alloc (.cells #[.int .i64 n] 3)) := (Below.refl _ _).alloc (Nat.le_refl _) _
      have HX2 := Lib.hid (HX1.out.trans (hy.mono HX1.out.size))
      replace HN5 : Hid (∀ j, (Value.slice a5 l.length c5).ownBlock = some j → j = j ∧ j ≠ Y1.heap.size) := Lib.hid (fun j hj => by
        have h0 := HN5.out j hj
        have h1 := (HO5.out.lt hj).2
        omega)
      replace HO5 := Lib.hid (HO5.out.below hy)
      have HC : Hid ((Y1.alloc (.cells #[.int .i64 n] 3)).cell? ⟨Y1.heap.size, 0, none⟩ = some (.int .i64 n)) := Lib.hid (by go_simp)
      have HLC : Hid (Y1.heap.size < (Y1.alloc (.cells #[.int .i64 n] 3)).heap.size) := Lib.hid (by simp)
      refine hK.out _ _ (HS.out _ HX2.out) (fun _ => ?_)
      clear hK hy
      generalize (Y1.alloc (.cells #[.int .i64 n] 3)) = Y2 at *
      generalize Y1.heap.size = C at *
      refine wpAnyH_ready (rs := [8, 11]) (by kernel_rfl) (by simp) ?_
      refine (AllReadyH.cons rfl (fun K hK => ?araaa) (AllReadyH.cons rfl (fun K hK => ?araab) AllReadyH.nil))
      case' araaa =>
        simp only [List.getElem_toArray, List.getElem_cons_succ, List.getElem_cons_zero]
        rw [if_pos (by rfl)]
        have hat : IAt Y2 C 0 [n] := fun j x hx => by
          cases j with
          | zero => simp at hx; subst hx; exact HC.out
          | succ j => simp at hx
        refine op_app1 (.tmp 12) (.tmp 14) rfl W.heap.size (.slice a5 l.length c5) l (by rfl) HO5.out C 0 1 [n] (by rfl) hat (by omega) (by simp) HX2.out.size ?_
        intro a8 c8 Y3 ho8 hgr hloc
        have HX3 : Hid (Below W.heap.size W Y3) := Lib.hid (HX2.out.grown hgr HX2.out.size (fun j hj => (HO5.out.lt hj).1))
        have HO8 : Hid (IOwn Y3 w.heap.size (.slice a8 (l ++ [n]).length c8) (l ++ [n])) := Lib.hid (ho8.mono (show w.heap.size ≤ W.heap.size from HT.out.b.size))
        have HN8 : Hid (∀ j, (Value.slice a8 (l ++ [n]).length c8).ownBlock = some j → w.heap.size + 2 ≤ j) := Lib.hid (fun j hj => by
          have h1 := (ho8.lt hj).1
          have h3 := HT.out.z.lt
          omega)
        have HL8 : Hid (∀ j, (Value.slice a8 (l ++ [n]).length c8).ownBlock = some j → j < Y3.heap.size) := Lib.hid (fun j hj => (ho8.lt hj).2)
        refine hK.out _ _ (HS.out _ HX3.out) (fun _ => ?_)
        clear hK hgr hloc ho8 hat HC HLC HO5 HN5
        simp only [Act.put, List.setIfInBounds_toArray, List.set_cons_zero, List.set_cons_succ]
        have hLL : (l ++ [n]).length ≤ 1000 := by simp; omega
        generalize l ++ [n] = L at *
        have hS0 := HS.out _ HX3.out
        refine wpAnyH_take (i := 10) (v := Value.agg #[.int .i64 (e + 1), .slice a8 L.length c8, .int .i64 n]) rfl (by kernel_rfl) (by kernel_rfl) (by kernel_rfl) (fun _ _ _ h => h) (Or.inl ⟨by rfl, ?_⟩) hS0 ?_
        · intro w' ⟨s0, s1, s2⟩; go_simp
        simp only [List.getElem_toArray, List.getElem_cons_succ, List.getElem_cons_zero, Act.put, List.setIfInBounds_toArray, List.set_cons_zero, List.set_cons_succ]
        clear hS0
        refine wpAnyH_ready (rs := [11]) (by kernel_rfl) (by simp) ?_
        refine (AllReadyH.cons rfl (fun K hK => ?_) AllReadyH.nil)
        simp only [List.getElem_toArray, List.getElem_cons_succ, List.getElem_cons_zero]
        go_simp
        have hy : Below Y3.heap.size Y3 (Y3.alloc (.cells #[.int .i64 0, .slice none 0 0, .int .i64 0] 24)) := (Below.refl _ _).alloc (Nat.le_refl _) _
        have HX4 := Lib.hid (HX3.out.trans (hy.mono HX3.out.size))
        replace HO8 := Lib.hid (HO8.out.below hy)
        replace HN8 : Hid (∀ j, (Value.slice a8 L.length c8).ownBlock = some j → w.heap.size + 2 ≤ j ∧ j ≠ Y3.heap.size) := Lib.hid (fun j hj => ⟨HN8.out j hj, by have := HL8.out j hj; omega⟩)
        have HBX : Hid (RC (Y3.alloc (.cells #[.int .i64 0, .slice none 0 0, .int .i64 0] 24)) Y3.heap.size 0 (.slice none 0 0) 0) := Lib.hid (RC.new _ 0 none 0 0 0 _)
        have hgx : w.heap.size + 2 ≤ Y3.heap.size := by
          have h2 := HX3.out.size
          have h3 := HT.out.z.lt
          omega
        refine hK.out _ _ (HS.out _ HX4.out) (fun _ => ?_)
        clear hK hy
        generalize (Y3.alloc (.cells #[.int .i64 0, .slice none 0 0, .int .i64 0] 24)) = Y4 at *
        generalize Y3.heap.size = X at *
      case' araab =>
        simp only [List.getElem_toArray, List.getElem_cons_succ, List.getElem_cons_zero]
        go_simp
        have hy : Below Y2.heap.size Y2 (Y2.alloc (.cells #[.int .i64 0, .slice none 0 0, .int .i64 0] 24)) := (Below.refl _ _).alloc (Nat.le_refl _) _
        have HX3 := Lib.hid (HX2.out.trans (hy.mono HX2.out.size))
        replace HN5 : Hid (∀ j, (Value.slice a5 l.length c5).ownBlock = some j → j = j ∧ j ≠ C ∧ j ≠ Y2.heap.size) := Lib.hid (fun j hj => by
          have h0 := HN5.out j hj
          have h1 := (HO5.out.lt hj).2
          omega)
        replace HO5 := Lib.hid (HO5.out.below hy)
        replace HC := Lib.hid ((hy.cell HLC.out).trans HC.out)
        replace HLC := Lib.hid (Nat.lt_of_lt_of_le HLC.out hy.size)
        have HBX : Hid (RC (Y2.alloc (.cells #[.int .i64 0, .slice none 0 0, .int .i64 0] 24)) Y2.heap.size 0 (.slice none 0 0) 0) := Lib.hid (RC.new _ 0 none 0 0 0 _)
        have hgx : w.heap.size + 2 ≤ Y2.heap.size := by
          have h2 := HX2.out.size
          have h3 := HT.out.z.lt
          omega
        refine hK.out _ _ (HS.out _ HX3.out) (fun _ => ?_)
        clear hK hy
        generalize (Y2.alloc (.cells #[.int .i64 0, .slice none 0 0, .int .i64 0] 24)) = Y3 at *
        generalize Y2.heap.size = X at *
        refine wpAnyH_ready (rs := [8]) (by kernel_rfl) (by simp) ?_
        refine (AllReadyH.cons rfl (fun K hK => ?_) AllReadyH.nil)
        simp only [List.getElem_toArray, List.getElem_cons_succ, List.getElem_cons_zero]
        rw [if_pos (by rfl)]
        have hat : IAt Y3 C 0 [n] := fun j x hx => by
          cases j with
          | zero => simp at hx; subst hx; exact HC.out
          | succ j => simp at hx
        refine op_app1 (.tmp 12) (.tmp 14) rfl W.heap.size (.slice a5 l.length c5) l (by rfl) HO5.out C 0 1 [n] (by rfl) hat (by omega) (by simp) HX3.out.size ?_
        intro a8 c8 Y4 ho8 hgr hloc
        have HX4 : Hid (Below W.heap.size W Y4) := Lib.hid (HX3.out.grown hgr HX3.out.size (fun j hj => (HO5.out.lt hj).1))
        have HO8 : Hid (IOwn Y4 w.heap.size (.slice a8 (l ++ [n]).length c8) (l ++ [n])) := Lib.hid (ho8.mono (show w.heap.size ≤ W.heap.size from HT.out.b.size))
        have HN8 : Hid (∀ j, (Value.slice a8 (l ++ [n]).length c8).ownBlock = some j → w.heap.size + 2 ≤ j ∧ j ≠ X) := Lib.hid (fun j hj => by
          have h1 := (ho8.lt hj).1
          have h3 := HT.out.z.lt
          refine ⟨by omega, ?_⟩
          rcases hloc with h | h
          · have h4 := HN5.out j (h ▸ hj)
            omega
          · have h5 := HBX.out.lt
            have : j = Y3.heap.size := by rw [hj] at h; exact Option.some.inj h
            omega)
        replace HBX : Hid (RC Y4 X 0 (.slice none 0 0) 0) := Lib.hid (HBX.out.kept (hgr.block X HBX.out.lt (fun e => by
          have h4 := HN5.out X (by first | exact e | exact e.symm)
          omega)))
        refine hK.out _ _ (HS.out _ HX4.out) (fun _ => ?_)
        clear hK hgr hloc ho8 hat HC HLC HO5 HN5
        simp only [Act.put, List.setIfInBounds_toArray, List.set_cons_zero, List.set_cons_succ]
        have hLL : (l ++ [n]).length ≤ 1000 := by simp; omega
        generalize l ++ [n] = L at *
        have hS0 := HS.out _ HX4.out
        refine wpAnyH_take (i := 10) (v := Value.agg #[.int .i64 (e + 1), .slice a8 L.length c8, .int .i64 n]) rfl (by kernel_rfl) (by kernel_rfl) (by kernel_rfl) (fun _ _ _ h => h) (Or.inl ⟨by rfl, ?_⟩) hS0 ?_
        · intro w' ⟨s0, s1, s2⟩; go_simp
        simp only [List.getElem_toArray, List.getElem_cons_succ, List.getElem_cons_zero, Act.put, List.setIfInBounds_toArray, List.set_cons_zero, List.set_cons_succ]
        clear hS0
    case' arab =>
      simp only [List.getElem_toArray, List.getElem_cons_succ, List.getElem_cons_zero]
      go_simp
      have hy : Below Y1.heap.size Y1 (Y1.alloc (.cells #[.int .i64 0, .slice none 0 0, .int .i64 0] 24)) := (Below.refl _ _).alloc (Nat.le_refl _) _
      have HX2 := Lib.hid (HX1.out.trans (hy.mono HX1.out.size))
      replace HN5 : Hid (∀ j, (Value.slice a5 l.length c5).ownBlock = some j → j = j ∧ j ≠ Y1.heap.size) := Lib.hid (fun j hj => by
        have h0 := HN5.out j hj
        have h1 := (HO5.out.lt hj).2
        omega)
      replace HO5 := Lib.hid (HO5.out.below hy)
      have HBX : Hid (RC (Y1.alloc (.cells #[.int .i64 0, .slice none 0 0, .int .i64 0] 24)) Y1.heap.size 0 (.slice none 0 0) 0) := Lib.hid (RC.new _ 0 none 0 0 0 _)
      have hgx : w.heap.size + 2 ≤ Y1.heap.size := by
        have h2 := HX1.out.size
        have h3 := HT.out.z.lt
        omega
      refine hK.out _ _ (HS.out _ HX2.out) (fun _ => ?_)
      clear hK hy
      generalize (Y1.alloc (.cells #[.int .i64 0, .slice none 0 0, .int .i64 0] 24)) = Y2 at *
      generalize Y1.heap.size = X at *
      refine wpAnyH_ready (rs := [7]) (by kernel_rfl) (by simp) ?_
      refine (AllReadyH.cons rfl (fun K hK => ?_) AllReadyH.nil)
      simp only [List.getElem_toArray, List.getElem_cons_succ, List.getElem_cons_zero]
      go_simp
      have hy : Below Y2.heap.size Y2 (Y2.alloc (.cells #[.int .i64 n] 3)) := (Below.refl _ _).alloc (Nat.le_refl _) _
      have HX3 := Lib.hid (HX2.out.trans (hy.mono HX2.out.size))
      replace HN5 : Hid (∀ j, (Value.slice a5 l.length c5).ownBlock = some j → j = j ∧ j ≠ X ∧ j ≠ Y2.heap.size) := Lib.hid (fun j hj => by
        have h0 := HN5.out j hj
        have h1 := (HO5.out.lt hj).2
        omega)
      replace HO5 := Lib.hid (HO5.out.below hy)
      replace HBX := Lib.hid (HBX.out.below hy)
      have HC : Hid ((Y2.alloc (.cells #[.int .i64 n] 3)).cell? ⟨Y2.heap.size, 0, none⟩ = some (.int .i64 n)) := Lib.hid (by go_simp)
      have HLC : Hid (Y2.heap.size < (Y2.alloc (.cells #[.int .i64 n] 3)).heap.size) := Lib.hid (by simp)
      refine hK.out _ _ (HS.out _ HX3.out) (fun _ => ?_)
      clear hK hy
      generalize (Y2.alloc (.cells #[.int .i64 n] 3)) = Y3 at *
      generalize Y2.heap.size = C at *
      refine wpAnyH_ready (rs := [8]) (by kernel_rfl) (by simp) ?_
      refine (AllReadyH.cons rfl (fun K hK => ?_) AllReadyH.nil)
      simp only [List.getElem_toArray, List.getElem_cons_succ, List.getElem_cons_zero]
      rw [if_pos (by rfl)]
      have hat : IAt Y3 C 0 [n] := fun j x hx => by
        cases j with
        | zero => simp at hx; subst hx; exact HC.out
        | succ j => simp at hx
      refine op_app1 (.tmp 12) (.tmp 14) rfl W.heap.size (.slice a5 l.length c5) l (by rfl) HO5.out C 0 1 [n] (by rfl) hat (by omega) (by simp) HX3.out.size ?_
      intro a8 c8 Y4 ho8 hgr hloc
      have HX4 : Hid (Below W.heap.size W Y4) := Lib.hid (HX3.out.grown hgr HX3.out.size (fun j hj => (HO5.out.lt hj).1))
      have HO8 : Hid (IOwn Y4 w.heap.size (.slice a8 (l ++ [n]).length c8) (l ++ [n])) := Lib.hid (ho8.mono (show w.heap.size ≤ W.heap.size from HT.out.b.size))
      have HN8 : Hid (∀ j, (Value.slice a8 (l ++ [n]).length c8).ownBlock = some j → w.heap.size + 2 ≤ j ∧ j ≠ X) := Lib.hid (fun j hj => by
        have h1 := (ho8.lt hj).1
        have h3 := HT.out.z.lt
        refine ⟨by omega, ?_⟩
        rcases hloc with h | h
        · have h4 := HN5.out j (h ▸ hj)
          omega
        · have h5 := HBX.out.lt
          have : j = Y3.heap.size := by rw [hj] at h; exact Option.some.inj h
          omega)
      replace HBX : Hid (RC Y4 X 0 (.slice none 0 0) 0) := Lib.hid (HBX.out.kept (hgr.block X HBX.out.lt (fun e => by
        have h4 := HN5.out X (by first | exact e | exact e.symm)
        omega)))
      refine hK.out _ _ (HS.out _ HX4.out) (fun _ => ?_)
      clear hK hgr hloc ho8 hat HC HLC HO5 HN5
      simp only [Act.put, List.setIfInBounds_toArray, List.set_cons_zero, List.set_cons_succ]
      have hLL : (l ++ [n]).length ≤ 1000 := by simp; omega
      generalize l ++ [n] = L at *
      have hS0 := HS.out _ HX4.out
      refine wpAnyH_take (i := 10) (v := Value.agg #[.int .i64 (e + 1), .slice a8 L.length c8, .int .i64 n]) rfl (by kernel_rfl) (by kernel_rfl) (by kernel_rfl) (fun _ _ _ h => h) (Or.inl ⟨by rfl, ?_⟩) hS0 ?_
      · intro w' ⟨s0, s1, s2⟩; go_simp
      simp only [List.getElem_toArray, List.getElem_cons_succ, List.getElem_cons_zero, Act.put, List.setIfInBounds_toArray, List.set_cons_zero, List.set_cons_succ]
      clear hS0
  case' arb =>
    simp only [List.getElem_toArray, List.getElem_cons_succ, List.getElem_cons_zero]
    go_simp
    have hy : Below Y0.heap.size Y0 (Y0.alloc (.cells #[.int .i64 n] 3)) := (Below.refl _ _).alloc (Nat.le_refl _) _
    have HX1 := Lib.hid (HX0.out.trans (hy.mono HX0.out.size))
    have HC : Hid ((Y0.alloc (.cells #[.int .i64 n] 3)).cell? ⟨Y0.heap.size, 0, none⟩ = some (.int .i64 n)) := Lib.hid (by go_simp)
    have HLC : Hid (Y0.heap.size < (Y0.alloc (.cells #[.int .i64 n] 3)).heap.size) := Lib.hid (by simp)
    refine hK.out _ _ (HS.out _ HX1.out) (fun _ => ?_)
    clear hK hy
    generalize (Y0.alloc (.cells #[.int .i64 n] 3)) = Y1 at *
    generalize Y0.heap.size = C at *
    refine wpAnyH_ready (rs := [5, 11]) (by kernel_rfl) (by simp) ?_
    refine (AllReadyH.cons rfl (fun K hK => ?arba) (AllReadyH.cons rfl (fun K hK => ?arbb) AllReadyH.nil))
    case' arba =>
      simp only [List.getElem_toArray, List.getElem_cons_succ, List.getElem_cons_zero]
      rw [if_pos (by rfl)]
      refine op_app0 (.tmp 11) rfl (.slice ad l.length cap) l (by rfl) (HT.out.below HX1.out).v (by omega) ?_
      intro a5 c5 Y2 ho5 hy
      have HX2 := Lib.hid (HX1.out.trans (hy.mono HX1.out.size))
      have HO5 : Hid (IOwn Y2 W.heap.size (.slice a5 l.length c5) l) := Lib.hid (ho5.mono HX1.out.size)
      have HN5 : Hid (∀ j, (Value.slice a5 l.length c5).ownBlock = some j → j = j ∧ j ≠ C) := Lib.hid (fun j hj => by
        have h1 := (ho5.lt hj).1
        have h4 := HLC.out
        omega)
      replace HC := Lib.hid ((hy.cell HLC.out).trans HC.out)
      replace HLC := Lib.hid (Nat.lt_of_lt_of_le HLC.out hy.size)
      refine hK.out _ _ (HS.out _ HX2.out) (fun _ => ?_)
      clear hK hy ho5
      simp only [Act.put, List.setIfInBounds_toArray, List.set_cons_zero, List.set_cons_succ]
      refine wpAnyH_ready (rs := [8, 11]) (by kernel_rfl) (by simp) ?_
      refine (AllReadyH.cons rfl (fun K hK => ?arbaa) (AllReadyH.cons rfl (fun K hK => ?arbab) AllReadyH.nil))
      case' arbaa =>
        simp only [List.getElem_toArray, List.getElem_cons_succ, List.getElem_cons_zero]
        rw [if_pos (by rfl)]
        have hat : IAt Y2 C 0 [n] := fun j x hx => by
          cases j with
          | zero => simp at hx; subst hx; exact HC.out
          | succ j => simp at hx
        refine op_app1 (.tmp 12) (.tmp 14) rfl W.heap.size (.slice a5 l.length c5) l (by rfl) HO5.out C 0 1 [n] (by rfl) hat (by omega) (by simp) HX2.out.size ?_
        intro a8 c8 Y3 ho8 hgr hloc
        have HX3 : Hid (Below W.heap.size W Y3) := Lib.hid (HX2.out.grown hgr HX2.out.size (fun j hj => (HO5.out.lt hj).1))
        have HO8 : Hid (IOwn Y3 w.heap.size (.slice a8 (l ++ [n]).length c8) (l ++ [n])) := Lib.hid (ho8.mono (show w.heap.size ≤ W.heap.size from HT.out.b.size))
        have HN8 : Hid (∀ j, (Value.slice a8 (l ++ [n]).length c8).ownBlock = some j → w.heap.size + 2 ≤ j) := Lib.hid (fun j hj => by
          have h1 := (ho8.lt hj).1
          have h3 := HT.out.z.lt
          omega)
        have HL8 : Hid (∀ j, (Value.slice a8 (l ++ [n]).length c8).ownBlock = some j → j < Y3.heap.size) := Lib.hid (fun j hj => (ho8.lt hj).2)
        refine hK.out _ _ (HS.out _ HX3.out) (fun _ => ?_)
        clear hK hgr hloc ho8 hat HC HLC HO5 HN5
        simp only [Act.put, List.setIfInBounds_toArray, List.set_cons_zero, List.set_cons_succ]
        have hLL : (l ++ [n]).length ≤ 1000 := by simp; omega
        generalize l ++ [n] = L at *
        have hS0 := HS.out _ HX3.out
        refine wpAnyH_take (i := 10) (v := Value.agg #[.int .i64 (e + 1), .slice a8 L.length c8, .int .i64 n]) rfl (by kernel_rfl) (by kernel_rfl) (by kernel_rfl) (fun _ _ _ h => h) (Or.inl ⟨by rfl, ?_⟩) hS0 ?_
        · intro w' ⟨s0, s1, s2⟩; go_simp
        simp only [List.getElem_toArray, List.getElem_cons_succ, List.getElem_cons_zero, Act.put, List.setIfInBounds_toArray, List.set_cons_zero, List.set_cons_succ]
        clear hS0
        refine wpAnyH_ready (rs := [11]) (by kernel_rfl) (by simp) ?_
        refine (AllReadyH.cons rfl (fun K hK => ?_) AllReadyH.nil)
        simp only [List.getElem_toArray, List.getElem_cons_succ, List.getElem_cons_zero]
        go_simp
        have hy : Below Y3.heap.size Y3 (Y3.alloc (.cells #[.int .i64 0, .slice none 0 0, .int .i64 0] 24)) := (Below.refl _ _).alloc (Nat.le_refl _) _
        have HX4 := Lib.hid (HX3.out.trans (hy.mono HX3.out.size))
        replace HO8 := Lib.hid (HO8.out.below hy)
        replace HN8 : Hid (∀ j, (Value.slice a8 L.length c8).ownBlock = some j → w.heap.size + 2 ≤ j ∧ j ≠ Y3.heap.size) := Lib.hid (fun j hj => ⟨HN8.out j hj, by have := HL8.out j hj; omega⟩)
        have HBX : Hid (RC (Y3.alloc (.cells #[.int .i64 0, .slice none 0 0, .int .i64 0] 24)) Y3.heap.size 0 (.slice none 0 0) 0) := Lib.hid (RC.new _ 0 none 0 0 0 _)
        have hgx : w.heap.size + 2 ≤ Y3.heap.size := by
          have h2 := HX3.out.size
          have h3 := HT.out.z.lt
          omega
        refine hK.out _ _ (HS.out _ HX4.out) (fun _ => ?_)
        clear hK hy
        generalize (Y3.alloc (.cells #[.int .i64 0, .slice none 0 0, .int .i64 0] 24)) = Y4 at *
        generalize Y3.heap.size = X at *
      case' arbab =>
        simp only [List.getElem_toArray, List.getElem_cons_succ, List.getElem_cons_zero]
        go_simp
        have hy : Below Y2.heap.size Y2 (Y2.alloc (.cells #[.int .i64 0, .slice none 0 0, .int .i64 0] 24)) := (Below.refl _ _).alloc (Nat.le_refl _) _
        have HX3 := Lib.hid (HX2.out.trans (hy.mono HX2.out.size))
        replace HN5 : Hid (∀ j, (Value.slice a5 l.length c5).ownBlock = some j → j = j ∧ j ≠ C ∧ j ≠ Y2.heap.size) := Lib.hid (fun j hj => by
          have h0 := HN5.out j hj
          have h1 := (HO5.out.lt hj).2
          omega)
        replace HO5 := Lib.hid (HO5.out.below hy)
        replace HC := Lib.hid ((hy.cell HLC.out).trans HC.out)
        replace HLC := Lib.hid (Nat.lt_of_lt_of_le HLC.out hy.size)
        have HBX : Hid (RC (Y2.alloc (.cells #[.int .i64 0, .slice none 0 0, .int .i64 0] 24)) Y2.heap.size 0 (.slice none 0 0) 0) := Lib.hid (RC.new _ 0 none 0 0 0 _)
        have hgx : w.heap.size + 2 ≤ Y2.heap.size := by
          have h2 := HX2.out.size
          have h3 := HT.out.z.lt
          omega
        refine hK.out _ _ (HS.out _ HX3.out) (fun _ => ?_)
        clear hK hy
        generalize (Y2.alloc (.cells #[.int .i64 0, .slice none 0 0, .int .i64 0] 24)) = Y3 at *
        generalize Y2.heap.size = X at *
        refine wpAnyH_ready (rs := [8]) (by kernel_rfl) (by simp) ?_
        refine (AllReadyH.cons rfl (fun K hK => ?_) AllReadyH.nil)
        simp only [List.getElem_toArray, List.getElem_cons_succ, List.getElem_cons_zero]
        rw [if_pos (by rfl)]
        have hat : IAt Y3 C 0 [n] := fun j x hx => by
          cases j with
          | zero => simp at hx; subst hx; exact HC.out
          | succ j => simp at hx
        refine op_app1 (.tmp 12) (.tmp 14) rfl W.heap.size (.slice a5 l.length c5) l (by rfl) HO5.out C 0 1 [n] (by rfl) hat (by omega) (by simp) HX3.out.size ?_
        intro a8 c8 Y4 ho8 hgr hloc
        have HX4 : Hid (Below W.heap.size W Y4) := Lib.hid (HX3.out.grown hgr HX3.out.size (fun j hj => (HO5.out.lt hj).1))
        have HO8 : Hid (IOwn Y4 w.heap.size (.slice a8 (l ++ [n]).length c8) (l ++ [n])) := Lib.hid (ho8.mono (show w.heap.size ≤ W.heap.size from HT.out.b.size))
        have HN8 : Hid (∀ j, (Value.slice a8 (l ++ [n]).length c8).ownBlock = some j → w.heap.size + 2 ≤ j ∧ j ≠ X) := Lib.hid (fun j hj => by
          have h1 := (ho8.lt hj).1
          have h3 := HT.out.z.lt
          refine ⟨by omega, ?_⟩
          rcases hloc with h | h
          · have h4 := HN5.out j (h ▸ hj)
            omega
          · have h5 := HBX.out.lt
            have : j = Y3.heap.size := by rw [hj] at h; exact Option.some.inj h
            omega)
        replace HBX : Hid (RC Y4 X 0 (.slice none 0 0) 0) := Lib.hid (HBX.out.kept (hgr.block X HBX.out.lt (fun e => by
          have h4 := HN5.out X (by first | exact e | exact e.symm)
          omega)))
        refine hK.out _ _ (HS.out _ HX4.out) (fun _ => ?_)
        clear hK hgr hloc ho8 hat HC HLC HO5 HN5
        simp only [Act.put, List.setIfInBounds_toArray, List.set_cons_zero, List.set_cons_succ]
        have hLL : (l ++ [n]).length ≤ 1000 := by simp; omega
        generalize l ++ [n] = L at *
        have hS0 := HS.out _ HX4.out
        refine wpAnyH_take (i := 10) (v := Value.agg #[.int .i64 (e + 1), .slice a8 L.length c8, .int .i64 n]) rfl (by kernel_rfl) (by kernel_rfl) (by kernel_rfl) (fun _ _ _ h => h) (Or.inl ⟨by rfl, ?_⟩) hS0 ?_
        · intro w' ⟨s0, s1, s2⟩; go_simp
        simp only [List.getElem_toArray, List.getElem_cons_succ, List.getElem_cons_zero, Act.put, List.setIfInBounds_toArray, List.set_cons_zero, List.set_cons_succ]
        clear hS0
    case' arbb =>
      simp only [List.getElem_toArray, List.getElem_cons_succ, List.getElem_cons_zero]
      go_simp
      have hy : Below Y1.heap.size Y1 (Y1.alloc (.cells #[.int .i64 0, .slice none 0 0, .int .i64 0] 24)) := (Below.refl _ _).alloc (Nat.le_refl _) _
      have HX2 := Lib.hid (HX1.out.trans (hy.mono HX1.out.size))
      replace HC := Lib.hid ((hy.cell HLC.out).trans HC.out)
      replace HLC := Lib.hid (Nat.lt_of_lt_of_le HLC.out hy.size)
      have HBX : Hid (RC (Y1.alloc (.cells #[.int .i64 0, .slice none 0 0, .int .i64 0] 24)) Y1.heap.size 0 (.slice none 0 0) 0) := Lib.hid (RC.new _ 0 none 0 0 0 _)
      have hgx : w.heap.size + 2 ≤ Y1.heap.size := by
        have h2 := HX1.out.size
        have h3 := HT.out.z.lt
        omega
      refine hK.out _ _ (HS.out _ HX2.out) (fun _ => ?_)
      clear hK hy
      generalize (Y1.alloc (.cells #[.int .i64 0, .slice none 0 0, .int .i64 0] 24)) = Y2 at *
      generalize Y1.heap.size = X at *
      refine wpAnyH_ready (rs := [5]) (by kernel_rfl) (by simp) ?_
      refine (AllReadyH.cons rfl (fun K hK => ?_) AllReadyH.nil)
      simp only [List.getElem_toArray, List.getElem_cons_succ, List.getElem_cons_zero]
      rw [if_pos (by rfl)]
      refine op_app0 (.tmp 11) rfl (.slice ad l.length cap) l (by rfl) (HT.out.below HX2.out).v (by omega) ?_
      intro a5 c5 Y3 ho5 hy
      have HX3 := Lib.hid (HX2.out.trans (hy.mono HX2.out.size))
      have HO5 : Hid (IOwn Y3 W.heap.size (.slice a5 l.length c5) l) := Lib.hid (ho5.mono HX2.out.size)
      have HN5 : Hid (∀ j, (Value.slice a5 l.length c5).ownBlock = some j → j = j ∧ j ≠ C ∧ j ≠ X) := Lib.hid (fun j hj => by
        have h1 := (ho5.lt hj).1
        have h4 := HLC.out
        have h5 := HBX.out.lt
        omega)
      replace HC := Lib.hid ((hy.cell HLC.out).trans HC.out)
      replace HLC := Lib.hid (Nat.lt_of_lt_of_le HLC.out hy.size)
      replace HBX := Lib.hid (HBX.out.below hy)
      refine hK.out _ _ (HS.out _ HX3.out) (fun _ => ?_)
      clear hK hy ho5
      simp only [Act.put, List.setIfInBounds_toArray, List.set_cons_zero, List.set_cons_succ]
      refine wpAnyH_ready (rs := [8]) (by kernel_rfl) (by simp) ?_
      refine (AllReadyH.cons rfl (fun K hK => ?_) AllReadyH.nil)
      simp only [List.getElem_toArray, List.getElem_cons_succ, List.getElem_cons_zero]
      rw [if_pos (by rfl)]
      have hat : IAt Y3 C 0 [n] := fun j x hx => by
        cases j with
        | zero => simp at hx; subst hx; exact HC.out
        | succ j => simp at hx
      refine op_app1 (.tmp 12) (.tmp 14) rfl W.heap.size (.slice a5 l.length c5) l (by rfl) HO5.out C 0 1 [n] (by rfl) hat (by omega) (by simp) HX3.out.size ?_
      intro a8 c8 Y4 ho8 hgr hloc
      have HX4 : Hid (Below W.heap.size W Y4) := Lib.hid (HX3.out.grown hgr HX3.out.size (fun j hj => (HO5.out.lt hj).1))
      have HO8 : Hid (IOwn Y4 w.heap.size (.slice a8 (l ++ [n]).length c8) (l ++ [n])) := Lib.hid (ho8.mono (show w.heap.size ≤ W.heap.size from HT.out.b.size))
      have HN8 : Hid (∀ j, (Value.slice a8 (l ++ [n]).length c8).ownBlock = some j → w.heap.size + 2 ≤ j ∧ j ≠ X) := Lib.hid (fun j hj => by
        have h1 := (ho8.lt hj).1
        have h3 := HT.out.z.lt
        refine ⟨by omega, ?_⟩
        rcases hloc with h | h
        · have h4 := HN5.out j (h ▸ hj)
          omega
        · have h5 := HBX.out.lt
          have : j = Y3.heap.size := by rw [hj] at h; exact Option.some.inj h
          omega)
      replace HBX : Hid (RC Y4 X 0 (.slice none 0 0) 0) := Lib.hid (HBX.out.kept (hgr.block X HBX.out.lt (fun e => by
        have h4 := HN5.out X (by first | exact e | exact e.symm)
        omega)))
      refine hK.out _ _ (HS.out _ HX4.out) (fun _ => ?_)
      clear hK hgr hloc ho8 hat HC HLC HO5 HN5
      simp only [Act.put, List.setIfInBounds_toArray, List.set_cons_zero, List.set_cons_succ]
      have hLL : (l ++ [n]).length ≤ 1000 := by simp; omega
      generalize l ++ [n] = L at *
      have hS0 := HS.out _ HX4.out
      refine wpAnyH_take (i := 10) (v := Value.agg #[.int .i64 (e + 1), .slice a8 L.length c8, .int .i64 n]) rfl (by kernel_rfl) (by kernel_rfl) (by kernel_rfl) (fun _ _ _ h => h) (Or.inl ⟨by rfl, ?_⟩) hS0 ?_
      · intro w' ⟨s0, s1, s2⟩; go_simp
      simp only [List.getElem_toArray, List.getElem_cons_succ, List.getElem_cons_zero, Act.put, List.setIfInBounds_toArray, List.set_cons_zero, List.set_cons_succ]
      clear hS0
  case' arc =>
    simp only [List.getElem_toArray, List.getElem_cons_succ, List.getElem_cons_zero]
    go_simp
    have hy : Below Y0.heap.size Y0 (Y0.alloc (.cells #[.int .i64 0, .slice none 0 0, .int .i64 0] 24)) := (Below.refl _ _).alloc (Nat.le_refl _) _
    have HX1 := Lib.hid (HX0.out.trans (hy.mono HX0.out.size))
    have HBX : Hid (RC (Y0.alloc (.cells #[.int .i64 0, .slice none 0 0, .int .i64 0] 24)) Y0.heap.size 0 (.slice none 0 0) 0) := Lib.hid (RC.new _ 0 none 0 0 0 _)
    have hgx : w.heap.size + 2 ≤ Y0.heap.size := by
      have h2 := HX0.out.size
      have h3 := HT.out.z.lt
      omega
    refine hK.out _ _ (HS.out _ HX1.out) (fun _ => ?_)
    clear hK hy
    generalize (Y0.alloc (.cells #[.int .i64 0, .slice none 0 0, .int .i64 0] 24)) = Y1 at *
    generalize Y0.heap.size = X at *
    refine wpAnyH_ready (rs := [5, 7]) (by kernel_rfl) (by simp) ?_
    refine (AllReadyH.cons rfl (fun K hK => ?arca) (AllReadyH.cons rfl (fun K hK => ?arcb) AllReadyH.nil))
    case' arca =>
      simp only [List.getElem_toArray, List.getElem_cons_succ, List.getElem_cons_zero]
      rw [if_pos (by rfl)]
      refine op_app0 (.tmp 11) rfl (.slice ad l.length cap) l (by rfl) (HT.out.below HX1.out).v (by omega) ?_
      intro a5 c5 Y2 ho5 hy
      have HX2 := Lib.hid (HX1.out.trans (hy.mono HX1.out.size))
      have HO5 : Hid (IOwn Y2 W.heap.size (.slice a5 l.length c5) l) := Lib.hid (ho5.mono HX1.out.size)
      have HN5 : Hid (∀ j, (Value.slice a5 l.length c5).ownBlock = some j → j = j ∧ j ≠ X) := Lib.hid (fun j hj => by
        have h1 := (ho5.lt hj).1
        have h5 := HBX.out.lt
        omega)
      replace HBX := Lib.hid (HBX.out.below hy)
      refine hK.out _ _ (HS.out _ HX2.out) (fun _ => ?_)
      clear hK hy ho5
      simp only [Act.put, List.setIfInBounds_toArray, List.set_cons_zero, List.set_cons_succ]
      refine wpAnyH_ready (rs := [7]) (by kernel_rfl) (by simp) ?_
      refine (AllReadyH.cons rfl (fun K hK => ?_) AllReadyH.nil)
      simp only [List.getElem_toArray, List.getElem_cons_succ, List.getElem_cons_zero]
      go_simp
      have hy : Below Y2.heap.size Y2 (Y2.alloc (.cells #[.int .i64 n] 3)) := (Below.refl _ _).alloc (Nat.le_refl _) _
      have HX3 := Lib.hid (HX2.out.trans (hy.mono HX2.out.size))
      replace HN5 : Hid (∀ j, (Value.slice a5 l.length c5).ownBlock = some j → j = j ∧ j ≠ X ∧ j ≠ Y2.heap.size) := Lib.hid (fun j hj => by
        have h0 := HN5.out j hj
        have h1 := (HO5.out.lt hj).2
        omega)
      replace HO5 := Lib.hid (HO5.out.below hy)
      replace HBX := Lib.hid (HBX.out.below hy)
      have HC : Hid ((Y2.alloc (.cells #[.int .i64 n] 3)).cell? ⟨Y2.heap.size, 0, none⟩ = some (.int .i64 n)) := Lib.hid (by go_simp)
      have HLC : Hid (Y2.heap.size < (Y2.alloc (.cells #[.int .i64 n] 3)).heap.size) := Lib.hid (by simp)
      refine hK.out _ _ (HS.out _ HX3.out) (fun _ => ?_)
      clear hK hy
      generalize (Y2.alloc (.cells #[.int .i64 n] 3)) = Y3 at *
      generalize Y2.heap.size = C at *
      refine wpAnyH_ready (rs := [8]) (by kernel_rfl) (by simp) ?_
      refine (AllReadyH.cons rfl (fun K hK => ?_) AllReadyH.nil)
      simp only [List.getElem_toArray, List.getElem_cons_succ, List.getElem_cons_zero]
      rw [if_pos (by rfl)]
      have hat : IAt Y3 C 0 [n] := fun j x hx => by
        cases j with
        | zero => simp at hx; subst hx; exact HC.out
        | succ j => simp at hx
      refine op_app1 (.tmp 12) (.tmp 14) rfl W.heap.size (.slice a5 l.length c5) l (by rfl) HO5.out C 0 1 [n] (by rfl) hat (by omega) (by simp) HX3.out.size ?_
      intro a8 c8 Y4 ho8 hgr hloc
      have HX4 : Hid (Below W.heap.size W Y4) := Lib.hid (HX3.out.grown hgr HX3.out.size (fun j hj => (HO5.out.lt hj).1))
      have HO8 : Hid (IOwn Y4 w.heap.size (.slice a8 (l ++ [n]).length c8) (l ++ [n])) := Lib.hid (ho8.mono (show w.heap.size ≤ W.heap.size from HT.out.b.size))
      have HN8 : Hid (∀ j, (Value.slice a8 (l ++ [n]).length c8).ownBlock = some j → w.heap.size + 2 ≤ j ∧ j ≠ X) := Lib.hid (fun j hj => by
        have h1 := (ho8.lt hj).1
        have h3 := HT.out.z.lt
        refine ⟨by omega, ?_⟩
        rcases hloc with h | h
        · have h4 := HN5.out j (h ▸ hj)
          omega
        · have h5 := HBX.out.lt
          have : j = Y3.heap.size := by rw [hj] at h; exact Option.some.inj h
          omega)
      replace HBX : Hid (RC Y4 X 0 (.slice none 0 0) 0) := Lib.hid (HBX.out.kept (hgr.block X HBX.out.lt (fun e => by
        have h4 := HN5.out X (by first | exact e | exact e.symm)
        omega)))
      refine hK.out _ _ (HS.out _ HX4.out) (fun _ => ?_)
      clear hK hgr hloc ho8 hat HC HLC HO5 HN5
      simp only [Act.put, List.setIfInBounds_toArray, List.set_cons_zero, List.set_cons_succ]
      have hLL : (l ++ [n]).length ≤ 1000 := by simp; omega
      generalize l ++ [n] = L at *
      have hS0 := HS.out _ HX4.out
      refine wpAnyH_take (i := 10) (v := Value.agg #[.int .i64 (e + 1), .slice a8 L.length c8, .int .i64 n]) rfl (by kernel_rfl) (by kernel_rfl) (by kernel_rfl) (fun _ _ _ h => h) (Or.inl ⟨by rfl, ?_⟩) hS0 ?_
      · intro w' ⟨s0, s1, s2⟩; go_simp
      simp only [List.getElem_toArray, List.getElem_cons_succ, List.getElem_cons_zero, Act.put, List.setIfInBounds_toArray, List.set_cons_zero, List.set_cons_succ]
      clear hS0
    case' arcb =>
      simp only [List.getElem_toArray, List.getElem_cons_succ, List.getElem_cons_zero]
      go_simp
      have hy : Below Y1.heap.size Y1 (Y1.alloc (.cells #[.int .i64 n] 3)) := (Below.refl _ _).alloc (Nat.le_refl _) _
      have HX2 := Lib.hid (HX1.out.trans (hy.mono HX1.out.size))
      replace HBX := Lib.hid (HBX.out.below hy)
      have HC : Hid ((Y1.alloc (.cells #[.int .i64 n] 3)).cell? ⟨Y1.heap.size, 0, none⟩ = some (.int .i64 n)) := Lib.hid (by go_simp)
      have HLC : Hid (Y1.heap.size < (Y1.alloc (.cells #[.int .i64 n] 3)).heap.size) := Lib.hid (by simp)
      refine hK.out _ _ (HS.out _ HX2.out) (fun _ => ?_)
      clear hK hy
      generalize (Y1.alloc (.cells #[.int .i64 n] 3)) = Y2 at *
      generalize Y1.heap.size = C at *
      refine wpAnyH_ready (rs := [5]) (by kernel_rfl) (by simp) ?_
      refine (AllReadyH.cons rfl (fun K hK => ?_) AllReadyH.nil)
      simp only [List.getElem_toArray, List.getElem_cons_succ, List.getElem_cons_zero]
      rw [if_pos (by rfl)]
      refine op_app0 (.tmp 11) rfl (.slice ad l.length cap) l (by rfl) (HT.out.below HX2.out).v (by omega) ?_
      intro a5 c5 Y3 ho5 hy
      have HX3 := Lib.hid (HX2.out.trans (hy.mono HX2.out.size))
      have HO5 : Hid (IOwn Y3 W.heap.size (.slice a5 l.length c5) l) := Lib.hid (ho5.mono HX2.out.size)
      have HN5 : Hid (∀ j, (Value.slice a5 l.length c5).ownBlock = some j → j = j ∧ j ≠ C ∧ j ≠ X) := Lib.hid (fun j hj => by
        have h1 := (ho5.lt hj).1
        have h4 := HLC.out
        have h5 := HBX.out.lt
        omega)
      replace HC := Lib.hid ((hy.cell HLC.out).trans HC.out)
      replace HLC := Lib.hid (Nat.lt_of_lt_of_le HLC.out hy.size)
      replace HBX := Lib.hid (HBX.out.below hy)
      refine hK.out _ _ (HS.out _ HX3.out) (fun _ => ?_)
      clear hK hy ho5
      simp only [Act.put, List.setIfInBounds_toArray, List.set_cons_zero, List.set_cons_succ]
      refine wpAnyH_ready (rs := [8]) (by kernel_rfl) (by simp) ?_
      refine (AllReadyH.cons rfl (fun K hK => ?_) AllReadyH.nil)
      simp only [List.getElem_toArray, List.getElem_cons_succ, List.getElem_cons_zero]
      rw [if_pos (by rfl)]
      have hat : IAt Y3 C 0 [n] := fun j x hx => by
        cases j with
        | zero => simp at hx; subst hx; exact HC.out
        | succ j => simp at hx
      refine op_app1 (.tmp 12) (.tmp 14) rfl W.heap.size (.slice a5 l.length c5) l (by rfl) HO5.out C 0 1 [n] (by rfl) hat (by omega) (by simp) HX3.out.size ?_
      intro a8 c8 Y4 ho8 hgr hloc
      have HX4 : Hid (Below W.heap.size W Y4) := Lib.hid (HX3.out.grown hgr HX3.out.size (fun j hj => (HO5.out.lt hj).1))
      have HO8 : Hid (IOwn Y4 w.heap.size (.slice a8 (l ++ [n]).length c8) (l ++ [n])) := Lib.hid (ho8.mono (show w.heap.size ≤ W.heap.size from HT.out.b.size))
      have HN8 : Hid (∀ j, (Value.slice a8 (l ++ [n]).length c8).ownBlock = some j → w.heap.size + 2 ≤ j ∧ j ≠ X) := Lib.hid (fun j hj => by
        have h1 := (ho8.lt hj).1
        have h3 := HT.out.z.lt
        refine ⟨by omega, ?_⟩
        rcases hloc with h | h
        · have h4 := HN5.out j (h ▸ hj)
          omega
        · have h5 := HBX.out.lt
          have : j = Y3.heap.size := by rw [hj] at h; exact Option.some.inj h
          omega)
      replace HBX : Hid (RC Y4 X 0 (.slice none 0 0) 0) := Lib.hid (HBX.out.kept (hgr.block X HBX.out.lt (fun e => by
        have h4 := HN5.out X (by first | exact e | exact e.symm)
        omega)))
      refine hK.out _ _ (HS.out _ HX4.out) (fun _ => ?_)
      clear hK hgr hloc ho8 hat HC HLC HO5 HN5
      simp only [Act.put, List.setIfInBounds_toArray, List.set_cons_zero, List.set_cons_succ]
      have hLL : (l ++ [n]).length ≤ 1000 := by simp; omega
      generalize l ++ [n] = L at *
      have hS0 := HS.out _ HX4.out
      refine wpAnyH_take (i := 10) (v := Value.agg #[.int .i64 (e + 1), .slice a8 L.length c8, .int .i64 n]) rfl (by kernel_rfl) (by kernel_rfl) (by kernel_rfl) (fun _ _ _ h => h) (Or.inl ⟨by rfl, ?_⟩) hS0 ?_
      · intro w' ⟨s0, s1, s2⟩; go_simp
      simp only [List.getElem_toArray, List.getElem_cons_succ, List.getElem_cons_zero, Act.put, List.setIfInBounds_toArray, List.set_cons_zero, List.set_cons_succ]
      clear hS0
  all_goals
    have HZ4 := Lib.hid (HT.out.below HX4.out)
    have hXw : w.heap.size ≤ X := by omega
    have hkeep : ∀ g, g ≠ X → (((Y4.setCell ⟨X, 0, none⟩ (.int .i64 (e + 1))).setCell ⟨X, 1, none⟩ (.slice a8 L.length c8)).setCell ⟨X, 2, none⟩ (.int .i64 n)).heap[g]? = Y4.heap[g]? := fun g hg => by
      rw [Below.heap_setCell _ _ _ _ (by simpa using hg), Below.heap_setCell _ _ _ _ (by simpa using hg), Below.heap_setCell _ _ _ _ (by simpa using hg)]
    have hb4 : Below w.heap.size w (((Y4.setCell ⟨X, 0, none⟩ (.int .i64 (e + 1))).setCell ⟨X, 1, none⟩ (.slice a8 L.length c8)).setCell ⟨X, 2, none⟩ (.int .i64 n)) := ((HZ4.out.b.setCell (p := ⟨X, 0, none⟩) hXw (.int .i64 (e + 1))).setCell (p := ⟨X, 1, none⟩) hXw (.slice a8 L.length c8)).setCell (p := ⟨X, 2, none⟩) hXw (.int .i64 n)
    have HB5 : Hid (RC (((Y4.setCell ⟨X, 0, none⟩ (.int .i64 (e + 1))).setCell ⟨X, 1, none⟩ (.slice a8 L.length c8)).setCell ⟨X, 2, none⟩ (.int .i64 n)) X (e + 1) (.slice a8 L.length c8) n) := Lib.hid (rc_put HBX.out _ _ _ _ _)
    have HZ5 : Hid (TwoB w (((Y4.setCell ⟨X, 0, none⟩ (.int .i64 (e + 1))).setCell ⟨X, 1, none⟩ (.slice a8 L.length c8)).setCell ⟨X, 2, none⟩ (.int .i64 n)) e ad l.length cap nw l) := Lib.hid ⟨HZ4.out.a.kept (hkeep _ (by omega)), HZ4.out.z.kept (hkeep _ (by omega)), HZ4.out.v.kept (by simp) (fun j hj => hkeep j (by have := HVL.out j hj; omega)), hb4⟩
    have HO5 : Hid (IOwn (((Y4.setCell ⟨X, 0, none⟩ (.int .i64 (e + 1))).setCell ⟨X, 1, none⟩ (.slice a8 L.length c8)).setCell ⟨X, 2, none⟩ (.int .i64 n)) w.heap.size (.slice a8 L.length c8) L) := Lib.hid (HO8.out.kept (fun j hj => hkeep j (HN8.out j hj).2))
    have HSF := Lib.hid HZ5.out.a.1
    obtain ⟨⟨x0, x1, x2⟩, y0, y1, y2⟩ := HBX.out
    clear hkeep hb4
    refine wpAnyH_ready (rs := [12]) (by kernel_rfl) (by simp) ?_
    refine (AllReadyH.cons rfl (fun K hK => ?_) AllReadyH.nil)
    simp only [List.getElem_toArray, List.getElem_cons_succ, List.getElem_cons_zero]
    go_simp
    refine hK.out _ _ HSF.out (fun _ => ?_)
    clear hK x0 x1 x2 y0 y1 y2
    refine wpAnyH_done (by kernel_rfl) ?_ _
    clear HSF HBX HO8 HX4 HZ4 HS
    generalize ((Y4.setCell ⟨X, 0, none⟩ (.int .i64 (e + 1))).setCell ⟨X, 1, none⟩ (.slice a8 L.length c8)).setCell ⟨X, 2, none⟩ (.int .i64 n) = Y5 at *
    have HM1 := Lib.hid (rmayr_p e nw _ l Y5 HZ5.out.v (by omega))
    obtain ⟨⟨x0, x1, x2⟩, _⟩ := HZ5.out.a
    cases hm : mayR ⟨e, l, nw⟩ with
    | false =>
      rw [hm] at HM1
      go_wp2_with fail
      refine HM1.out.mono ?_
      rintro _ Y6 ⟨rfl, hy⟩
      have HZ6 := Lib.hid (HZ5.out.below hy)
      clear hy x0 x1 x2
      obtain ⟨⟨x0, x1, x2⟩, _⟩ := HZ6.out.a
      have hF := box_facts HZ6.out 0 0 none 0 0
      dsimp only at hF
      obtain ⟨t0, t1, t2, hB3, hk⟩ := hF
      obtain ⟨⟨d0, d1, d2⟩, f0, f1, f2⟩ := HZ6.out.z
      have HRR : R = (Ro.zero, false) := by rw [← HR.out]; rw [hm]; rfl
      subst HRR
      go_wp2_with fail
      exact bodyPost_ret (v := .tuple #[.agg #[.int .i64 0, .slice none 0 0, .int .i64 0], .bool false]) (by simp [results, Tryz.results40, go_sem, t0, t1, t2]) rfl ⟨_, _, rfl, IOwn.nil _ _, hB3⟩
    | true =>
      rw [hm] at HM1
      go_wp2_with fail
      refine HM1.out.mono ?_
      rintro _ Y6 ⟨rfl, hy⟩
      have HZ6 := Lib.hid (HZ5.out.below hy)
      have HO6 := Lib.hid (HO5.out.below hy)
      have HB6 := Lib.hid (HB5.out.below hy)
      clear hy x0 x1 x2 HM1 HZ5 HO5 HB5
      obtain ⟨⟨x0, x1, x2⟩, _⟩ := HZ6.out.a
      by_cases hz : nw = 0
      case neg =>
        have z1 : (nw != 0) = true := by rw [bne_iff_ne]; exact hz
        have z2 : (nw == 0) = false := by rw [beq_eq_false_iff_ne]; exact hz
        have hF := box_facts HZ6.out 0 0 none 0 0
        dsimp only at hF
        obtain ⟨t0, t1, t2, hB3, hk⟩ := hF
        obtain ⟨⟨d0, d1, d2⟩, f0, f1, f2⟩ := HZ6.out.z
        have HRR : R = (Ro.zero, false) := by rw [← HR.out]; rw [hm, decide_eq_false hz]; rfl
        subst HRR
        go_wp2_with fail
        exact bodyPost_ret (v := .tuple #[.agg #[.int .i64 0, .slice none 0 0, .int .i64 0], .bool false]) (by simp [results, Tryz.results40, go_sem, t0, t1, t2]) rfl ⟨_, _, rfl, IOwn.nil _ _, hB3⟩
      case pos =>
        have z1 : (nw != 0) = false := by rw [bne_eq_false_iff_eq]; exact hz
        have z2 : (nw == 0) = true := beq_iff_eq.2 hz
        obtain ⟨⟨p0, p1, p2⟩, _⟩ := HB6.out
        have HM2 := Lib.hid (rmayr_p (e + 1) n _ L Y6 HO6.out.at (by omega))
        have HRC : Hid (chkR ⟨e + 1, L, n⟩ = R) := Lib.hid (by rw [← HR.out, hm, decide_eq_true hz]; rfl)
        clear HR
        have HR := HRC
        clear HRC
        go_wp2_with fail
        cases hc : mayR ⟨e + 1, L, n⟩ with
        | false =>
          rw [hc] at HM2
          refine HM2.out.mono ?_
          rintro _ Y7 ⟨rfl, hy⟩
          have HZ7 := Lib.hid (HZ6.out.below hy)
          clear hy x0 x1 x2 p0 p1 p2 HM2
          have hF := box_facts HZ7.out 0 0 none 0 0
          dsimp only at hF
          obtain ⟨t0, t1, t2, hB3, hk⟩ := hF
          obtain ⟨⟨d0, d1, d2⟩, f0, f1, f2⟩ := HZ7.out.z
          have HRR : R = (Ro.zero, false) := by rw [← HR.out]; unfold chkR; rw [hc]; rfl
          subst HRR
          go_wp2_with fail
          exact bodyPost_ret (v := .tuple #[.agg #[.int .i64 0, .slice none 0 0, .int .i64 0], .bool false]) (by simp [results, Tryz.results40, go_sem, t0, t1, t2]) rfl ⟨_, _, rfl, IOwn.nil _ _, hB3⟩
        | true =>
          rw [hc] at HM2
          refine HM2.out.mono ?_
          rintro _ Y7 ⟨rfl, hy⟩
          have HZ7 := Lib.hid (HZ6.out.below hy)
          have HO7 := Lib.hid (HO6.out.below hy)
          have HB7 := Lib.hid (HB6.out.below hy)
          clear hy x0 x1 x2 p0 p1 p2 HM2
          obtain ⟨⟨p0, p1, p2⟩, _⟩ := HB7.out
          have hF := box_facts HZ7.out (e + 1) n a8 L.length c8
          dsimp only at hF
          obtain ⟨t0, t1, t2, hB3, hk⟩ := hF
          obtain ⟨⟨d0, d1, d2⟩, f0, f1, f2⟩ := HZ7.out.z
          have HRR : R = (⟨e + 1, L, n⟩, true) := by rw [← HR.out]; unfold chkR; rw [hc]; rfl
          subst HRR
          go_wp2_with fail
          exact bodyPost_ret (v := .tuple #[.agg #[.int .i64 (e + 1), .slice a8 L.length c8, .int .i64 n], .bool true]) (by simp [results, Tryz.results40, go_sem, t0, t1, t2]) rfl ⟨_, _, rfl, HO7.out.kept (fun g hg => hk g (by have := (HN8.out g hg).1; omega)), hB3⟩
end Go.Proofs.YtaacdggjkfmehaaGreatDoor
