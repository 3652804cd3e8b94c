/-
  Contracts of the program, and what they rest on.
-/
import Derived.Test.YtaacdggjkfmehaaGreatDoorM22
import Derived.Test.YtaacdggjkfmehaaGreatDoorM03
import Derived.Test.YtaacdggjkfmehaaGreatDoorM02
import Derived.Deep.QuietTactic
import Derived.BigQuiet
import Derived.Test.YtaacdggjkfmehaaGreatDoorRRosF
import Derived.Test.YtaacdggjkfmehaaGreatDoorCaA
namespace Go.Proofs.YtaacdggjkfmehaaGreatDoor
open Go.RowKit Go.Maps Go.Proofs.MapD Go.Proofs.Chest
def QOut (q : Option (Int × Int)) (r : Ro) (u z : Value) (w' : World) : Prop :=
  match q with
  | none => z = .slice none 0 0
  | some (to, un) => ∃ g ad cap, u = .slice ad r.l.length cap ∧ z = .slice (some ⟨g, 0, none⟩) 1 1 ∧ w'.heap[g]? = some (.cells (wcells to un r ad cap) 46 (0, 0))
def BX4 (w : World) (B : Nat) (k n to ep : Int) : Prop := w.cell? ⟨B, 0, none⟩ = some (.int .i64 k) ∧ w.cell? ⟨B, 1, none⟩ = some (.int .i64 n) ∧ w.cell? ⟨B, 2, none⟩ = some (.int .i64 to) ∧ w.cell? ⟨B, 3, none⟩ = some (.int .i64 ep)
theorem BX4.below {w w' : World} {B : Nat} {k n to ep : Int} (h : BX4 w B k n to ep) (hb : Below w.heap.size w w') : BX4 w' B k n to ep := by
  have hlt := World.block_lt_of_cell? w _ h.1
  obtain ⟨h0, h1, h2, h3⟩ := h
  exact ⟨(hb.cell (p := ⟨B, 0, none⟩) hlt).trans h0, (hb.cell (p := ⟨B, 1, none⟩) hlt).trans h1, (hb.cell (p := ⟨B, 2, none⟩) hlt).trans h2, (hb.cell (p := ⟨B, 3, none⟩) hlt).trans h3⟩
section
variable {w0 w : World} {y : Nat} {v v' : Value} {t : Qs} {L : List It}
set_option maxRecDepth 100000 in
set_option maxHeartbeats 8000000 in
theorem step_q (h : Sp w0 w (qx y v v' t :: L)) (hl : t.r.l.length ≤ 900) (k n to ep : Int) (q : Wq) (now : Int) (h0 : 0 ≤ now) (h1 : now ≤ 1000000) :
    Calls Tryz.prog 12 #[.pointer (some ⟨y, 0, none⟩), wagg k n to ep q, .int .i64 now] w fun e w' => ∃ z, e = .returned z ∧ QOut (qstep t k n to ep now).2 t.r v z w' ∧ Sp w0 w' (qx y v v' (qstep t k n to ep now).1 :: L) := by
  obtain ⟨ad, cap, rfl, _⟩ := h.qc.2.1.shape
  have hb : Below w.heap.size w (w.alloc (.cells #[.int .i64 k, .int .i64 n, .int .i64 to, .int .i64 ep, .int .i64 q.seq, .int .i64 q.req, .int .i64 q.un, .int .i64 q.e, .int .i64 q.v, .int .i64 q.ep, .slice q.a1 q.n1 q.c1, .int .i64 q.nw, .slice q.a2 q.n2 q.c2, .int .i64 q.ss, .slice q.a3 q.n3 q.c3, .slice q.a4 q.n4 q.c4, .int .i64 q.l1, .int .i64 q.l2, .int .i64 q.l3, .int .i64 q.l4, .int .i64 q.l5] 46)) := (Below.refl _ _).alloc (Nat.le_refl _) _
  have H1 := Lib.hid (h.below hb)
  have HB : Hid (BX4 (w.alloc (.cells #[.int .i64 k, .int .i64 n, .int .i64 to, .int .i64 ep, .int .i64 q.seq, .int .i64 q.req, .int .i64 q.un, .int .i64 q.e, .int .i64 q.v, .int .i64 q.ep, .slice q.a1 q.n1 q.c1, .int .i64 q.nw, .slice q.a2 q.n2 q.c2, .int .i64 q.ss, .slice q.a3 q.n3 q.c3, .slice q.a4 q.n4 q.c4, .int .i64 q.l1, .int .i64 q.l2, .int .i64 q.l3, .int .i64 q.l4, .int .i64 q.l5] 46)) w.heap.size k n to ep) := Lib.hid (by refine ⟨?_, ?_, ?_, ?_⟩ <;> go_simp)
  have HYL := Lib.hid (show y < w.heap.size from h.qc.1.lt)
  have HSP := Lib.hid (fun W (hW : IsAt W (.slice ad t.r.l.length cap) t.r.l) => spot_p t.r.ep t.r.nw n _ t.r.l W hW (by omega))
  clear h hb
  unfold wagg
  by_cases t1 : to = 0
  case neg =>
    have t1b : (to != 0) = true := by rw [bne_iff_ne]; exact t1
    have e : qstep t k n to ep now = (t, none) := if_pos (.inl t1)
    rw [e]
    clear t1 e
    go_enter Tryz.func12, Tryz.ntmps12
    go_wp2_with fail
    generalize w.alloc _ = W at *
    obtain ⟨b0, b1, b2, b3⟩ := HB.out
    go_wp2_with fail
    go_ret
    exact ⟨_, rfl, rfl, H1.out⟩
  have t1b : (to != 0) = false := by rw [bne_eq_false_iff_eq]; exact t1
  by_cases t2 : n < 1
  case pos =>
    have e : qstep t k n to ep now = (t, none) := if_pos (.inr (.inl t2))
    rw [e]
    clear t1 e
    go_enter Tryz.func12, Tryz.ntmps12
    go_wp2_with fail
    generalize w.alloc _ = W at *
    obtain ⟨b0, b1, b2, b3⟩ := HB.out
    go_wp2_with fail
    go_ret
    exact ⟨_, rfl, rfl, H1.out⟩
  by_cases t3 : 5 < n
  case pos =>
    have e : qstep t k n to ep now = (t, none) := if_pos (.inr (.inr t3))
    rw [e]
    clear t1 e
    go_enter Tryz.func12, Tryz.ntmps12
    go_wp2_with fail
    generalize w.alloc _ = W at *
    obtain ⟨b0, b1, b2, b3⟩ := HB.out
    go_wp2_with fail
    go_ret
    exact ⟨_, rfl, rfl, H1.out⟩
  have e : qstep t k n to ep now = if k = 1 then qbeat t n now else if k = 11 then (qfull t n ep, none) else (t, none) := by unfold qstep; rw [if_neg (by omega)]
  rw [e]
  clear t1 e
  by_cases t4 : k = 1
  case pos =>
    subst t4
    rw [if_pos rfl]
    obtain ⟨m, rfl⟩ : ∃ m : Nat, n = m := ⟨n.toNat, by omega⟩
    have hm6 : (m : Int) < 6 := by omega
    have HM6 := Lib.hid (show m < 6 by omega)
    obtain ⟨T, hT⟩ : ∃ T, qbeat t m now = T := ⟨_, rfl⟩
    rw [hT]
    have HT := Lib.hid hT
    clear hT
    have t2' : ¬ (m : Int) < 1 := t2
    go_enter Tryz.func12, Tryz.ntmps12
    go_wp2_with fail
    generalize w.alloc _ = W at *
    generalize w.heap.size = B at *
    obtain ⟨b0, b1, b2, b3⟩ := HB.out
    go_wp2_with fail
    clear b0 b1 b2 b3
    have HSS : Hid (∀ W' t', Sp w0 W' (qx y (.slice ad t.r.l.length cap) v' t' :: L) → t'.r = t.r → BX4 W' B 1 m to ep → W'.cell? ⟨y, 0, none⟩ = some (.int .i64 t.r.ep) ∧ W'.cell? ⟨y, 1, none⟩ = some (.slice ad t.r.l.length cap) ∧ W'.cell? ⟨y, 2, none⟩ = some (.int .i64 t.r.nw) ∧ W'.cell? ⟨B, 0, none⟩ = some (.int .i64 1) ∧ W'.cell? ⟨B, 1, none⟩ = some (.int .i64 m)) := Lib.hid (fun W' t' hW hr hB => by
      obtain ⟨g0, g1, g2, _⟩ := hW.qc.1.cells
      rw [hr] at g0 g2
      exact ⟨g0, g1, g2, hB.1, hB.2.1⟩)
    have H1D := Lib.hid (H1.out.below (Below.refl _ W).drew)
    have HBD := Lib.hid (HB.out.below (Below.refl _ W).drew)
    have hS0 := HSS.out _ t H1D.out rfl HBD.out
    refine wp_region_held (S := fun W' : World => W'.cell? ⟨y, 0, none⟩ = some (.int .i64 t.r.ep) ∧ W'.cell? ⟨y, 1, none⟩ = some (.slice ad t.r.l.length cap) ∧ W'.cell? ⟨y, 2, none⟩ = some (.int .i64 t.r.nw) ∧ W'.cell? ⟨B, 0, none⟩ = some (.int .i64 1) ∧ W'.cell? ⟨B, 1, none⟩ = some (.int .i64 m)) (by kernel_rfl) ?_
    change wpAnyH _ _ _ _ _ _ _ _ (World.drew _)
    refine wpAnyH_take (i := 0) (v := Value.pointer (some ⟨B, 0, none⟩)) rfl (by kernel_rfl) (by kernel_rfl) (by kernel_rfl) (fun _ _ _ h => h) (Or.inl ⟨by rfl, ?_⟩) hS0 ?_
    · intro w' ⟨s0, s1, s2, s3, s4⟩; go_simp
    simp only [List.getElem_toArray, List.getElem_cons_zero, Act.put, List.setIfInBounds_toArray, List.set_cons_zero, List.set_cons_succ]
    refine wpAnyH_take (i := 1) (v := Value.int .i64 1) rfl (by kernel_rfl) (by kernel_rfl) (by kernel_rfl) (fun _ _ _ h => h) (Or.inl ⟨by rfl, ?_⟩) hS0 ?_
    · intro w' ⟨s0, s1, s2, s3, s4⟩; go_simp
    simp only [List.getElem_toArray, List.getElem_cons_succ, List.getElem_cons_zero, Act.put, List.setIfInBounds_toArray, List.set_cons_zero, List.set_cons_succ]
    refine wpAnyH_take (i := 2) (v := Value.bool true) rfl (by kernel_rfl) (by kernel_rfl) (by kernel_rfl) (fun _ _ _ h => h) (Or.inl ⟨by rfl, ?_⟩) hS0 ?_
    · intro w' ⟨s0, s1, s2, s3, s4⟩; go_simp
    simp only [List.getElem_toArray, List.getElem_cons_succ, List.getElem_cons_zero, Act.put, List.setIfInBounds_toArray, List.set_cons_zero, List.set_cons_succ]
    refine wpAnyH_take (i := 3) (v := Value.bool true) rfl (by kernel_rfl) (by kernel_rfl) (by kernel_rfl) (fun _ _ _ h => h) (Or.inl ⟨by rfl, ?_⟩) hS0 ?_
    · intro w' ⟨s0, s1, s2, s3, s4⟩; go_simp
    simp only [List.getElem_toArray, List.getElem_cons_succ, List.getElem_cons_zero, Act.put, List.setIfInBounds_toArray, List.set_cons_zero, List.set_cons_succ]
    refine wpAnyH_take (i := 4) (v := Value.pointer (some ⟨y, 0, none⟩)) rfl (by kernel_rfl) (by kernel_rfl) (by kernel_rfl) (fun _ _ _ h => h) (Or.inl ⟨by rfl, ?_⟩) hS0 ?_
    · intro w' ⟨s0, s1, s2, s3, s4⟩; go_simp
    simp only [List.getElem_toArray, List.getElem_cons_succ, List.getElem_cons_zero, Act.put, List.setIfInBounds_toArray, List.set_cons_zero, List.set_cons_succ]
    refine wpAnyH_take (i := 5) (v := Value.pointer (some ⟨y, 0, none⟩)) rfl (by kernel_rfl) (by kernel_rfl) (by kernel_rfl) (fun _ _ _ h => h) (Or.inl ⟨by rfl, ?_⟩) hS0 ?_
    · intro w' ⟨s0, s1, s2, s3, s4⟩; go_simp
    simp only [List.getElem_toArray, List.getElem_cons_succ, List.getElem_cons_zero, Act.put, List.setIfInBounds_toArray, List.set_cons_zero, List.set_cons_succ]
    refine wpAnyH_take (i := 6) (v := Value.pointer (some ⟨y, 0, none⟩)) rfl (by kernel_rfl) (by kernel_rfl) (by kernel_rfl) (fun _ _ _ h => h) (Or.inl ⟨by rfl, ?_⟩) hS0 ?_
    · intro w' ⟨s0, s1, s2, s3, s4⟩; go_simp
    simp only [List.getElem_toArray, List.getElem_cons_succ, List.getElem_cons_zero, Act.put, List.setIfInBounds_toArray, List.set_cons_zero, List.set_cons_succ]
    refine wpAnyH_take (i := 7) (v := Value.agg #[.int .i64 t.r.ep, .slice ad t.r.l.length cap, .int .i64 t.r.nw]) rfl (by kernel_rfl) (by kernel_rfl) (by kernel_rfl) (fun _ _ _ h => h) (Or.inl ⟨by rfl, ?_⟩) hS0 ?_
    · intro w' ⟨s0, s1, s2, s3, s4⟩; go_simp
    simp only [List.getElem_toArray, List.getElem_cons_succ, List.getElem_cons_zero, Act.put, List.setIfInBounds_toArray, List.set_cons_zero, List.set_cons_succ]
    refine wpAnyH_take (i := 8) (v := Value.pointer (some ⟨B, 1, none⟩)) rfl (by kernel_rfl) (by kernel_rfl) (by kernel_rfl) (fun _ _ _ h => h) (Or.inl ⟨by rfl, ?_⟩) hS0 ?_
    · intro w' ⟨s0, s1, s2, s3, s4⟩; go_simp
    simp only [List.getElem_toArray, List.getElem_cons_succ, List.getElem_cons_zero, Act.put, List.setIfInBounds_toArray, List.set_cons_zero, List.set_cons_succ]
    refine wpAnyH_take (i := 9) (v := Value.int .i64 m) rfl (by kernel_rfl) (by kernel_rfl) (by kernel_rfl) (fun _ _ _ h => h) (Or.inl ⟨by rfl, ?_⟩) hS0 ?_
    · intro w' ⟨s0, s1, s2, s3, s4⟩; go_simp
    simp only [List.getElem_toArray, List.getElem_cons_succ, List.getElem_cons_zero, Act.put, List.setIfInBounds_toArray, List.set_cons_zero, List.set_cons_succ]
    clear hS0
    refine wpAnyH_ready (rs := [10]) (by kernel_rfl) (by simp) ?_
    refine AllReadyH.cons rfl (fun K hK => ?_) AllReadyH.nil
    simp only [List.getElem_toArray, List.getElem_cons_succ, List.getElem_cons_zero]
    go_simp
    refine (HSP.out _ H1D.out.qc.2.1).mono ?_
    rintro _ w5 ⟨rfl, hb5⟩
    have H5 := Lib.hid (H1D.out.below hb5)
    have HB5 := Lib.hid (HBD.out.below hb5)
    clear hb5 H1D HBD HSP H1 HB
    refine hK.out _ _ (HSS.out _ t H5.out rfl HB5.out) (fun hS0 => ?_)
    clear hK
    by_cases hx : ixI t.r.l m < 0
    · have e : T = (⟨t.r, t.nx, t.chg, t.un, t.hd, m, t.lost⟩, none) := HT.out.symm.trans (if_pos hx)
      have hxd : decide (ixI t.r.l m < 0) = true := decide_eq_true hx
      subst e
      clear HT
      refine wpAnyH_take (i := 11) (v := Value.bool true) rfl (by kernel_rfl) (by kernel_rfl) (by kernel_rfl) (fun _ _ _ h => h) (Or.inl ⟨by rfl, ?_⟩) hS0 ?_
      · intro w' ⟨s0, s1, s2, s3, s4⟩; go_simp
      simp only [List.getElem_toArray, List.getElem_cons_succ, List.getElem_cons_zero, Act.put, List.setIfInBounds_toArray, List.set_cons_zero, List.set_cons_succ]
      refine wpAnyH_take (i := 12) (v := Value.bool true) rfl (by kernel_rfl) (by kernel_rfl) (by kernel_rfl) (fun _ _ _ h => h) (Or.inl ⟨by rfl, ?_⟩) hS0 ?_
      · intro w' ⟨s0, s1, s2, s3, s4⟩; go_simp
      simp only [List.getElem_toArray, List.getElem_cons_succ, List.getElem_cons_zero, Act.put, List.setIfInBounds_toArray, List.set_cons_zero, List.set_cons_succ]
      refine wpAnyH_ready (rs := [13]) (by kernel_rfl) (by simp) ?_
      refine AllReadyH.cons rfl (fun K hK => ?_) AllReadyH.nil
      simp only [List.getElem_toArray, List.getElem_cons_succ, List.getElem_cons_zero]
      go_simp
      refine hK.out _ _ hS0 (fun hS0 => ?_)
      clear hK hS0
      refine wpAnyH_done (by kernel_rfl) ?_ _
      obtain ⟨_, _, _, _, _, _, _, _, c14, _⟩ := H5.out.qc.1.cells
      have f14 := H5.out.qc.1.free 14
      obtain ⟨b0, b1, b2, b3⟩ := HB5.out
      have HF := Lib.hid (H5.out.qSame (H5.out.qc.1.asksS m) rfl rfl ((Only.refl [y] _).setCell (p := ⟨y, 14, none⟩) (.inl (by simp)) _))
      go_wp2_with fail
      go_ret
      exact ⟨_, rfl, rfl, HF.out⟩
    · have hxd : decide (ixI t.r.l m < 0) = false := decide_eq_false hx
      have e : T = if t.chg then (⟨t.r, t.nx, t.chg, t.un, t.hd.set m now, t.asks, t.lost⟩, none) else (⟨t.r, t.nx, t.chg, max t.un (now + 6), t.hd.set m now, t.asks, t.lost⟩, some ((m : Int), now + 6)) := by rw [← HT.out]; unfold qbeat; rw [if_neg hx, show ((m : Int)).toNat = m from rfl]
      have HE := Lib.hid e
      clear e HT
      refine wpAnyH_take (i := 11) (v := Value.bool false) rfl (by kernel_rfl) (by kernel_rfl) (by kernel_rfl) (fun _ _ _ h => h) (Or.inl ⟨by rfl, ?_⟩) hS0 ?_
      · intro w' ⟨s0, s1, s2, s3, s4⟩; go_simp
      simp only [List.getElem_toArray, List.getElem_cons_succ, List.getElem_cons_zero, Act.put, List.setIfInBounds_toArray, List.set_cons_zero, List.set_cons_succ]
      refine wpAnyH_take (i := 12) (v := Value.bool false) rfl (by kernel_rfl) (by kernel_rfl) (by kernel_rfl) (fun _ _ _ h => h) (Or.inl ⟨by rfl, ?_⟩) hS0 ?_
      · intro w' ⟨s0, s1, s2, s3, s4⟩; go_simp
      simp only [List.getElem_toArray, List.getElem_cons_succ, List.getElem_cons_zero, Act.put, List.setIfInBounds_toArray, List.set_cons_zero, List.set_cons_succ]
      refine wpAnyH_ready (rs := [13]) (by kernel_rfl) (by simp) ?_
      refine AllReadyH.cons rfl (fun K hK => ?_) AllReadyH.nil
      simp only [List.getElem_toArray, List.getElem_cons_succ, List.getElem_cons_zero]
      go_simp
      refine hK.out _ _ hS0 (fun hS0 => ?_)
      clear hK hS0
      refine wpAnyH_done (by kernel_rfl) ?_ _
      obtain ⟨b0, b1, b2, b3⟩ := HB5.out
      have d8 := H5.out.qc.1.hd HM6.out
      have f8 := H5.out.qc.1.free (8 + m)
      have hq6 := H5.out.qc.1.hear HM6.out now
      have HX6 := Lib.hid ((Only.refl [y] w5).setCell (p := ⟨y, 8 + m, none⟩) (.inl (by simp)) (.int .i64 now))
      have H6 := Lib.hid (H5.out.qSame hq6 rfl rfl HX6.out)
      have HB6 : Hid (BX4 (w5.setCell ⟨y, 8 + m, none⟩ (.int .i64 now)) B 1 m to ep) := Lib.hid (by
        have hne : B ≠ y := by have := HYL.out; omega
        have e := Below.heap_setCell w5 ⟨y, 8 + m, none⟩ (.int .i64 now) B hne
        exact ⟨(World.cell?_of_block (a := ⟨B, 0, none⟩) e).trans b0, (World.cell?_of_block (a := ⟨B, 1, none⟩) e).trans b1, (World.cell?_of_block (a := ⟨B, 2, none⟩) e).trans b2, (World.cell?_of_block (a := ⟨B, 3, none⟩) e).trans b3⟩)
      clear hq6 HX6 HB5
      go_wp2_with fail
      go_region
      have H7 := Lib.hid (H6.out.below (Below.refl _ _).drew)
      have HB7 := Lib.hid (HB6.out.below (Below.refl _ _).drew)
      clear H6 HB6 H5 d8 f8 b0 b1 b2 b3 hxd
      generalize World.drew (World.setCell w5 _ _) = W7 at *
      cases hcg : t.chg with
      | true =>
        have e := HE.out
        rw [hcg, if_pos rfl] at e
        subst e
        obtain ⟨_, _, _, _, _, _, c6, _⟩ := H7.out.qc.1.cells
        dsimp only at c6
        rw [hcg] at c6
        have HF : Hid (Sp w0 W7 (qx y (.slice ad t.r.l.length cap) v' ⟨t.r, t.nx, true, t.un, t.hd.set m now, t.asks, t.lost⟩ :: L)) := Lib.hid (by have h := H7.out; rw [hcg] at h; exact h)
        clear HE hcg H7
        go_wp2_with fail
        go_ret
        exact ⟨_, rfl, rfl, HF.out⟩
      | false =>
        have e := HE.out
        rw [hcg, if_neg Bool.false_ne_true] at e
        subst e
        have HF0 : Hid (Sp w0 W7 (qx y (.slice ad t.r.l.length cap) v' ⟨t.r, t.nx, false, t.un, t.hd.set m now, t.asks, t.lost⟩ :: L)) := Lib.hid (by have h := H7.out; rw [hcg] at h; exact h)
        clear HE hcg H7
        obtain ⟨c0, c1, c2, c3, c4, c5, c6, c7, _⟩ := HF0.out.qc.1.cells
        have f7 := HF0.out.qc.1.free 7
        dsimp only at c0 c1 c2 c6 c7
        have H8 := Lib.hid (HF0.out.qSame (HF0.out.qc.1.unS (max t.un (now + 6))) rfl rfl ((Only.refl [y] W7).setCell (p := ⟨y, 7, none⟩) (.inl (by simp)) _))
        have HB8 : Hid (BX4 (W7.setCell ⟨y, 7, none⟩ (.int .i64 (max t.un (now + 6)))) B 1 m to ep) := Lib.hid (by
          have hne : B ≠ y := by have := HYL.out; omega
          have e := Below.heap_setCell W7 ⟨y, 7, none⟩ (.int .i64 (max t.un (now + 6))) B hne
          obtain ⟨b0, b1, b2, b3⟩ := HB7.out
          exact ⟨(World.cell?_of_block (a := ⟨B, 0, none⟩) e).trans b0, (World.cell?_of_block (a := ⟨B, 1, none⟩) e).trans b1, (World.cell?_of_block (a := ⟨B, 2, none⟩) e).trans b2, (World.cell?_of_block (a := ⟨B, 3, none⟩) e).trans b3⟩)
        clear HF0 HB7
        go_wp2_with fail
        clear c0 c1 c2 c3 c4 c5 c6 c7 f7
        generalize World.setCell W7 _ _ = W8 at *
        obtain ⟨c0, c1, c2, c3, c4, c5, c6, c7, _⟩ := H8.out.qc.1.cells
        dsimp only at c0 c1 c2
        obtain ⟨b0, b1, b2, b3⟩ := HB8.out
        go_region
        have HF := H8.out.below (((Below.refl _ W8).drew).alloc (Nat.le_refl _) (.cells (wcells m (now + 6) t.r ad cap) 46))
        have hcell := heap_alloc_new W8.drew (.cells (wcells m (now + 6) t.r ad cap) 46)
        have HFF := Lib.hid (And.intro HF hcell)
        clear HF hcell H8 HB8 c0 c1 c2 c3 c4 c5 c6 c7 b0 b1 b2 b3
        go_wp2_with fail
        go_ret
        exact ⟨_, rfl, ⟨_, ad, cap, rfl, rfl, HFF.out.2⟩, HFF.out.1⟩
  have t4b : (k == 1) = false := by rw [beq_eq_false_iff_ne]; exact t4
  rw [if_neg t4]
  clear t4
  by_cases t5 : k = 11
  case neg =>
    have t5b : (k == 11) = false := by rw [beq_eq_false_iff_ne]; exact t5
    rw [if_neg t5]
    clear t5
    go_enter Tryz.func12, Tryz.ntmps12
    go_wp2_with fail
    generalize w.alloc _ = W at *
    generalize w.heap.size = B at *
    obtain ⟨b0, b1, b2, b3⟩ := HB.out
    go_wp2_with fail
    go_quiet (fail)
    have H2 := Lib.hid (H1.out.below (below_drewN (Below.refl _ W) nq))
    have HB2 := Lib.hid (HB.out.below (below_drewN (Below.refl _ W) nq))
    clear H1 HB b0 b1 b2 b3
    generalize World.drewN W nq = W2 at *
    obtain ⟨b0, b1, b2, b3⟩ := HB2.out
    obtain ⟨c0, c1, c2, c3, c4, c5, c6, c7, _⟩ := H2.out.qc.1.cells
    have f2 := H2.out.qc.1.free 2
    go_wp2_with fail
    go_quiet (fail)
    have H3 := Lib.hid (H2.out.below (below_drewN (Below.refl _ W2) nq))
    clear H2 HB2 b0 b1 b2 b3 c0 c1 c2 c3 c4 c5 c6 c7 f2
    generalize World.drewN W2 nq = W3 at *
    go_wp2_with fail
    go_ret
    exact ⟨_, rfl, rfl, H3.out⟩
  subst t5
  rw [if_pos rfl]
  by_cases t6 : n = t.r.nw
  case neg =>
    have e : qfull t n ep = t := if_neg (fun hh => t6 hh.1)
    have t6b : (n == t.r.nw) = false := by rw [beq_eq_false_iff_ne]; exact t6
    rw [e]
    clear e t6
    go_enter Tryz.func12, Tryz.ntmps12
    go_wp2_with fail
    generalize w.alloc _ = W at *
    generalize w.heap.size = B at *
    obtain ⟨b0, b1, b2, b3⟩ := HB.out
    go_wp2_with fail
    go_quiet (fail)
    have H2 := Lib.hid (H1.out.below (below_drewN (Below.refl _ W) nq))
    have HB2 := Lib.hid (HB.out.below (below_drewN (Below.refl _ W) nq))
    clear H1 HB b0 b1 b2 b3
    generalize World.drewN W nq = W2 at *
    obtain ⟨b0, b1, b2, b3⟩ := HB2.out
    obtain ⟨c0, c1, c2, c3, c4, c5, c6, c7, _⟩ := H2.out.qc.1.cells
    have f2 := H2.out.qc.1.free 2
    go_wp2_with fail
    go_quiet (fail)
    have H3 := Lib.hid (H2.out.below (below_drewN (Below.refl _ W2) nq))
    clear H2 HB2 b0 b1 b2 b3 c0 c1 c2 c3 c4 c5 c6 c7 f2
    generalize World.drewN W2 nq = W3 at *
    go_wp2_with fail
    go_ret
    exact ⟨_, rfl, rfl, H3.out⟩
  have t6b : (n == t.r.nw) = true := by rw [beq_iff_eq]; exact t6
  by_cases t7 : ep = t.r.ep
  case neg =>
    have e : qfull t n ep = t := if_neg (fun hh => t7 hh.2.1)
    have t7b : (ep == t.r.ep) = false := by rw [beq_eq_false_iff_ne]; exact t7
    rw [e]
    clear e t6 t7
    go_enter Tryz.func12, Tryz.ntmps12
    go_wp2_with fail
    generalize w.alloc _ = W at *
    generalize w.heap.size = B at *
    obtain ⟨b0, b1, b2, b3⟩ := HB.out
    go_wp2_with fail
    go_quiet (fail)
    have H2 := Lib.hid (H1.out.below (below_drewN (Below.refl _ W) nq))
    have HB2 := Lib.hid (HB.out.below (below_drewN (Below.refl _ W) nq))
    clear H1 HB b0 b1 b2 b3
    generalize World.drewN W nq = W2 at *
    obtain ⟨b0, b1, b2, b3⟩ := HB2.out
    obtain ⟨c0, c1, c2, c3, c4, c5, c6, c7, _⟩ := H2.out.qc.1.cells
    have f2 := H2.out.qc.1.free 2
    go_wp2_with fail
    go_quiet (fail)
    have H3 := Lib.hid (H2.out.below (below_drewN (Below.refl _ W2) nq))
    clear H2 HB2 b0 b1 b2 b3 c0 c1 c2 c3 c4 c5 c6 c7 f2
    generalize World.drewN W2 nq = W3 at *
    go_wp2_with fail
    go_ret
    exact ⟨_, rfl, rfl, H3.out⟩
  have t7b : (ep == t.r.ep) = true := by rw [beq_iff_eq]; exact t7
  cases hcg : t.chg with
  | true =>
    have e : qfull t n ep = t := if_neg (fun hh => by rw [hcg] at hh; cases hh.2.2)
    rw [e]
    have HCG := Lib.hid hcg
    clear e t6 t7 hcg
    go_enter Tryz.func12, Tryz.ntmps12
    go_wp2_with fail
    generalize w.alloc _ = W at *
    generalize w.heap.size = B at *
    obtain ⟨b0, b1, b2, b3⟩ := HB.out
    go_wp2_with fail
    go_quiet (fail)
    have H2 := Lib.hid (H1.out.below (below_drewN (Below.refl _ W) nq))
    have HB2 := Lib.hid (HB.out.below (below_drewN (Below.refl _ W) nq))
    clear H1 HB b0 b1 b2 b3
    generalize World.drewN W nq = W2 at *
    obtain ⟨b0, b1, b2, b3⟩ := HB2.out
    obtain ⟨c0, c1, c2, c3, c4, c5, c6, c7, _⟩ := H2.out.qc.1.cells
    have f2 := H2.out.qc.1.free 2
    rw [HCG.out] at c6
    go_wp2_with fail
    go_quiet (fail)
    have H3 := Lib.hid (H2.out.below (below_drewN (Below.refl _ W2) nq))
    clear H2 HB2 b0 b1 b2 b3 c0 c1 c2 c3 c4 c5 c6 c7 f2
    generalize World.drewN W2 nq = W3 at *
    go_wp2_with fail
    go_ret
    exact ⟨_, rfl, rfl, H3.out⟩
  | false =>
    have e : qfull t n ep = ⟨⟨t.r.ep, t.r.l, 0⟩, t.nx, t.chg, t.un, t.hd, t.asks, t.lost⟩ := if_pos ⟨t6, t7, hcg⟩
    rw [e]
    have HCG := Lib.hid hcg
    clear e t6 t7 hcg
    go_enter Tryz.func12, Tryz.ntmps12
    go_wp2_with fail
    generalize w.alloc _ = W at *
    generalize w.heap.size = B at *
    obtain ⟨b0, b1, b2, b3⟩ := HB.out
    go_wp2_with fail
    go_quiet (fail)
    have H2 := Lib.hid (H1.out.below (below_drewN (Below.refl _ W) nq))
    have HB2 := Lib.hid (HB.out.below (below_drewN (Below.refl _ W) nq))
    clear H1 HB b0 b1 b2 b3
    generalize World.drewN W nq = W2 at *
    obtain ⟨b0, b1, b2, b3⟩ := HB2.out
    obtain ⟨c0, c1, c2, c3, c4, c5, c6, c7, _⟩ := H2.out.qc.1.cells
    have f2 := H2.out.qc.1.free 2
    rw [HCG.out] at c6
    go_wp2_with fail
    go_quiet (fail)
    have H3 := Lib.hid (H2.out.below (below_drewN (Below.refl _ W2) nq))
    clear H2 HB2 b0 b1 b2 b3 c0 c1 c2 c3 c4 c5 c6 c7 f2
    generalize World.drewN W2 nq = W3 at *
    obtain ⟨_, _, c2, _⟩ := H3.out.qc.1.cells
    have f2 := H3.out.qc.1.free 2
    have HF := Lib.hid (H3.out.qSame (H3.out.qc.1.nwS 0) rfl rfl ((Only.refl [y] W3).setCell (p := ⟨y, 2, none⟩) (.inl (by simp)) _))
    go_wp2_with fail
    go_ret
    exact ⟨_, rfl, rfl, HF.out⟩
end
end Go.Proofs.YtaacdggjkfmehaaGreatDoor
