/-
 BookLows answers true.
-/
import Derived.Test.YtlpgphiccjkenaaGreatDoorTk
import Derived.Test.YtlpgphiccjkenaaGreatDoorM08
import Derived.Test.YtlpgphiccjkenaaGreatDoorM11
import Derived.Test.YtlpgphiccjkenaaGreatDoorM14
import Derived.Test.YtlpgphiccjkenaaGreatDoorM30
import Derived.Test.YtlpgphiccjkenaaGreatDoorLblP
import Derived.Test.YtlpgphiccjkenaaGreatDoorDigits2
set_option maxRecDepth 100000
set_option maxHeartbeats 16000000
namespace Go.Proofs.YtlpgphiccjkenaaGreatDoor
open Go.RowKit

section
variable {P : Program} {ops : Array Oper} {Q : Exit → Act → World → Prop} {S : Array Bool → World → Prop}

theorem wpAnyD_two' {i j : Nat} {oi oj : Oper} {fuel : Nat} {listed : Array Bool} {a : Act} {w : World} (hr : Region.ready .any ops listed = [i, j]) (hoi : ops[i]? = some oi) (hoj : ops[j]? = some oj) (hg : noGuards ops = true)
  (hi : ∀ K : Act → World → Prop, Shut (∀ a w, S (listed.setIfInBounds i true) w → (S (listed.setIfInBounds i true) w → wpAnyD P ops Q S fuel (listed.setIfInBounds i true) a w) → K a w) → Oper.wp P oi a w K Q)
  (hj : ∀ K : Act → World → Prop, Shut (∀ a w, S (listed.setIfInBounds j true) w → (S (listed.setIfInBounds j true) w → wpAnyD P ops Q S fuel (listed.setIfInBounds j true) a w) → K a w) → Oper.wp P oj a w K Q) : wpAnyD P ops Q S (fuel + 1) listed a w := by
 refine ⟨fun h0 => (by rw [hr] at h0; cases h0), fun k hk => ?_⟩
 rw [hr] at hk
 rcases List.mem_cons.1 hk with rfl | hk
 ·unfold wpOp
  simp only [hoi, wanted_free (noGuards_spec hg _ oi hoi), if_true]
  exact .inl (hi _ (fun a w h1 h2 => ⟨h1, h2 h1⟩))
 ·obtain rfl := List.mem_singleton.1 hk
  unfold wpOp
  simp only [hoj, wanted_free (noGuards_spec hg _ oj hoj), if_true]
  exact .inl (hj _ (fun a w h1 h2 => ⟨h1, h2 h1⟩))

theorem wpAnyD_three {i j k : Nat} {oi oj ok : Oper} {fuel : Nat} {listed : Array Bool} {a : Act} {w : World} (hr : Region.ready .any ops listed = [i, j, k]) (hoi : ops[i]? = some oi) (hoj : ops[j]? = some oj) (hok : ops[k]? = some ok) (hg : noGuards ops = true)
  (hi : ∀ K : Act → World → Prop, Shut (∀ a w, S (listed.setIfInBounds i true) w → (S (listed.setIfInBounds i true) w → wpAnyD P ops Q S fuel (listed.setIfInBounds i true) a w) → K a w) → Oper.wp P oi a w K Q)
  (hj : ∀ K : Act → World → Prop, Shut (∀ a w, S (listed.setIfInBounds j true) w → (S (listed.setIfInBounds j true) w → wpAnyD P ops Q S fuel (listed.setIfInBounds j true) a w) → K a w) → Oper.wp P oj a w K Q)
  (hk : ∀ K : Act → World → Prop, Shut (∀ a w, S (listed.setIfInBounds k true) w → (S (listed.setIfInBounds k true) w → wpAnyD P ops Q S fuel (listed.setIfInBounds k true) a w) → K a w) → Oper.wp P ok a w K Q) : wpAnyD P ops Q S (fuel + 1) listed a w := by
 refine ⟨fun h0 => (by rw [hr] at h0; cases h0), fun m hm => ?_⟩
 rw [hr] at hm
 rcases List.mem_cons.1 hm with rfl | hm
 ·unfold wpOp
  simp only [hoi, wanted_free (noGuards_spec hg _ oi hoi), if_true]
  exact .inl (hi _ (fun a w h1 h2 => ⟨h1, h2 h1⟩))
 ·rcases List.mem_cons.1 hm with rfl | hm
  ·unfold wpOp
   simp only [hoj, wanted_free (noGuards_spec hg _ oj hoj), if_true]
   exact .inl (hj _ (fun a w h1 h2 => ⟨h1, h2 h1⟩))
  ·obtain rfl := List.mem_singleton.1 hm
   unfold wpOp
   simp only [hok, wanted_free (noGuards_spec hg _ ok hok), if_true]
   exact .inl (hk _ (fun a w h1 h2 => ⟨h1, h2 h1⟩))

end

theorem pair_two {α β : Type} (p : α × β) : ∃ a b, p = (a, b) := ⟨p.1, p.2, rfl⟩

theorem dk {P : Program} {ops : Array Oper} {Q : Exit → Act → World → Prop} {R : World → Prop} {j : Nat} {fuel : Nat} {listed : Array Bool} {a : Act} {w : World} {oi : Oper} (i : Nat) (v : Value) (hi : ops[i]? = some oi)
  (hS : listed.getD j false = false → R w) (hy : ∀ w, (execOp a.eval oi).run P w = .ok (.value v) w)
  (h : ((listed.setIfInBounds i true).getD j false = false → R w) → wpAnyD P ops Q (fun L Y => L.getD j false = false → R Y) fuel (listed.setIfInBounds i true) (a.put oi.dst v) w)
  (hs : Region.noSelect ops = true := by kernel_rfl) (hg : noGuards ops = true := by kernel_rfl) (hf : Region.free .any ops listed i = true := by kernel_rfl) (hr : (Region.ready .any ops listed).contains i = true := by kernel_rfl)
  (hQ : ∀ c a w, Q (.panic c) (a.put oi.dst v) w → Q (.panic c) a w := by exact fun _ _ _ h => h) (hij : i ≠ j := by decide) (hd : downB ops listed = true := by kernel_rfl) (hgd : oi.guard = none := by rfl) :
  wpAnyD P ops Q (fun L Y => L.getD j false = false → R Y) (fuel + 1) listed a w :=
 wpAnyD_take hi hs hg hf hr hQ (fun L w => by simp only [getD_set_ne false hij]) hd hS ⟨hgd, fun _ w' _ _ _ => .inl (hy w')⟩ h

theorem box_s (W : World) : ∃ X W', W.heap.size = X ∧ W.alloc (.cells #[.int .i64 0, .slice none 0 0, .slice none 0 0, .int .i64 0, .int .i64 0, .int .i64 0, .int .i64 0, .int .i64 0] 27) = W' ∧ Below W.heap.size W W' ∧ BC W' X Bk.zero (.slice none 0 0) (.slice none 0 0) := ⟨_, _, rfl, rfl, (Below.refl _ _).alloc (Nat.le_refl _) _, BC.new W Bk.zero _ _⟩

theorem box_r (W : World) : ∃ X W', W.heap.size = X ∧ W.alloc (.cells #[.int .i64 0, .int .i64 0] 30) = W' ∧ Below W.heap.size W W' ∧ RC W' X ⟨0, 0⟩ := ⟨_, _, rfl, rfl, (Below.refl _ _).alloc (Nat.le_refl _) _, RC.new W ⟨0, 0⟩⟩

theorem toldR_two (l : List Me) (n : Int) : (toldR l n).2 = (toldB l n).isSome := by
 unfold toldR
 cases toldB l n <;> rfl

theorem blS_do (i : Nat) (h : i < 20) : ∃ r, doB (blS i) (dls i) true = (blS (i + 1), r) := (blS_step i h).1

theorem bookLows_walk (a0 l0 : Int) (w : World) (hbg : Begun5True) (h : LibAt w) :
  Calls Tryz.prog 5 #[.int .i64 a0, .int .i64 l0] w fun e w' => e = .returned (.bool true) ∧ Below w.heap.size w w' := by
 have HB := Lib.hid (hbg w h)
 have HL := Lib.hid h
 obtain ⟨hw1, N, hN, hN1, hN6⟩ : IntKind.i64.wrap (a0.tmod 20 + 20) = a0.tmod 20 + 20 ∧ ∃ N : Nat, IntKind.i64.wrap (1 + (a0.tmod 20 + 20).tmod 20) = (N : Int) ∧ 1 ≤ N ∧ N ≤ 20 := by
  have g1 := Int.tmod_lt_of_pos a0 (show (0 : Int) < 20 by decide)
  have g2 := Int.lt_tmod_of_pos a0 (show (0 : Int) < 20 by decide)
  generalize a0.tmod 20 = r at *
  refine ⟨IntWalk.i64_in _ (by omega), ?_⟩
  have g3 := Int.tmod_lt_of_pos (r + 20) (show (0 : Int) < 20 by decide)
  have g4 := Int.tmod_nonneg 20 (show (0 : Int) ≤ r + 20 by omega)
  generalize (r + 20).tmod 20 = q at *
  exact ⟨(1 + q).toNat, by rw [IntWalk.i64_in _ (by omega)]; omega, by omega, by omega⟩
 obtain ⟨hw2, LW, hLW, hL24⟩ : IntKind.i64.wrap (l0.tmod 25 + 25) = l0.tmod 25 + 25 ∧ ∃ LW : Nat, (l0.tmod 25 + 25).tmod 25 = (LW : Int) ∧ LW < 25 := by
  have g1 := Int.tmod_lt_of_pos l0 (show (0 : Int) < 25 by decide)
  have g2 := Int.lt_tmod_of_pos l0 (show (0 : Int) < 25 by decide)
  generalize l0.tmod 25 = r at *
  refine ⟨IntWalk.i64_in _ (by omega), ?_⟩
  have g3 := Int.tmod_lt_of_pos (r + 25) (show (0 : Int) < 25 by decide)
  have g4 := Int.tmod_nonneg 25 (show (0 : Int) ≤ r + 25 by omega)
  generalize (r + 25).tmod 25 = q at *
  exact ⟨q.toNat, by omega, by omega⟩
 have HN := Lib.hid (And.intro hN1 (And.intro hN6 hL24))
 clear hbg h
 go_enter Tryz.func5, Tryz.ntmps5
 go_wp2_with fail
 refine HB.out.mono ?_
 rintro _ w0 ⟨rfl, hb⟩
 have HS := Lib.hid (SB.new HL.out hb)
 clear hb HB hN1 hN6 hL24
 go_wp2_with fail
 generalize w0.alloc (.cells #[.int .i64 0, .slice none 0 0, .slice none 0 0, .int .i64 0, .int .i64 0, .int .i64 0, .int .i64 0, .int .i64 0] 27) = W0 at *
 generalize w0.heap.size = E at *
 clear hw1 hN hw2 hLW
 rw [← blS_zero] at HS
 go_loopw [7] (fun iv wr => ∃ (i : Nat) (a : Option Addr) (c : Nat) (b : Option Addr) (d : Nat), iv = .int .i64 i ∧ 1 ≤ i ∧ i ≤ N + 1 ∧ Hid (SB w wr E (blS (i - 1)) (.slice a (blS (i - 1)).l.length c) (.slice b (blS (i - 1)).ms.length d))) (fun iv _ => N + 1 - (intOf iv).toNat)
 case atStart => exact ⟨1, none, 0, none, 0, rfl, by omega, by omega, HS⟩
 case round =>
  obtain ⟨i, a, c, b, d, rfl, hi1, hiN, HS⟩ := hrel
  by_cases hlt : i ≤ N
  ·have hltz : (i : Int) ≤ (N : Int) := by omega
   have hi6 : i ≤ 20 := by have := HN.out; omega
   obtain ⟨k, hk⟩ : ∃ k, i - 1 = k := ⟨_, rfl⟩
   obtain rfl : i = k + 1 := by omega
   rw [hk] at HS
   have hmod : ((k : Int) + 1).tmod 7 = (((k + 1) % 7 : Nat) : Int) := by rw [Int.tmod_eq_emod_of_nonneg (by omega)]; omega
   obtain ⟨rm, hrm⟩ : ∃ m, (k + 1) % 7 = m := ⟨_, rfl⟩
   rw [hrm] at hmod
   have hrm7 : rm < 7 := by omega
   have RD := Lib.hid (rDigits (rm : Int) (by omega) (by omega))
   have hds : (decS (rm : Int)).size ≤ 21 := decS_size _ (by omega) (by omega)
   have hfk : fkey ((k + 1) % 7) = ⟨#[107]⟩ ++ decS (rm : Int) := by rw [hrm, fkey_eq]
   have HP := Lib.hid (lput_any (⟨#[107]⟩ ++ decS (rm : Int)) ⟨#[118]⟩ ((k : Int) + 1) (by omega) (by omega))
   obtain ⟨⟨r1, hr1⟩, hm1, hwf1, hwf0, hsh⟩ := blS_step k (by omega)
   have HDO := fun u v W (h : SB w W E (blS k) u v) => do_sb (dls k) h hwf0 hwf1 hm1
   rw [hr1] at HDO
   have HSH := Lib.hid hsh
   have hwi : IntKind.i64.wrap ((k : Int) + 1 + 1) = (k : Int) + 1 + 1 := IntWalk.i64_in _ (by omega)
   have hltk : (k : Int) + 1 ≤ (N : Int) := by omega
   have hdq : (4294967296 : Int) + ((k + 1 : Nat) : Int) = 4294967296 + ((k : Int) + 1) := by omega
   have hsz : 1 + (decS (rm : Int)).size ≤ 9223372036854775807 := by omega
   obtain ⟨s1, hs1⟩ : ∃ s, blS (k + 1) = s := ⟨_, rfl⟩
   rw [hs1] at HDO HSH
   have HSE := Lib.hid hs1
   unfold dls at HDO
   rw [hfk] at HDO
   simp only [hdq] at HDO
   have HDO := Lib.hid HDO
   clear hs1 hr1 hm1 hwf1 hwf0 hsh hfk hrm
   unfold DoAns bagg dagg at HDO
   dsimp only at HDO
   generalize blS k = s0 at *
   generalize decS (rm : Int) = D at *
   clear hlt
   go_wp2_with fail
   refine wp_region_D (S := fun L Y => L.getD 11 false = false → BC Y E s0 (.slice a s0.l.length c) (.slice b s0.ms.length d)) (by kernel_rfl) (fun _ => HS.out.bc) (fun hS0 => ?_)
   refine wpAnyD_take (i := 0) (v := Value.agg #[.int .i64 s0.seq, .slice a s0.l.length c, .slice b s0.ms.length d, .int .i64 s0.l1, .int .i64 s0.l2, .int .i64 s0.l3, .int .i64 s0.l4, .int .i64 s0.l5]) rfl (by kernel_rfl) (by kernel_rfl) (by kernel_rfl) (by kernel_rfl) (fun _ _ _ h => h) (fun L w => by simp only [getD_set_ne false (by decide : (0 : Nat) ≠ 11)]) (by kernel_rfl) hS0 ⟨by rfl, fun L w' hL hD hS => ?_⟩ (fun hS0 => ?_)
   ·obtain ⟨q0, q1, q2, q3, q4, q5, q6, q7⟩ := (hS (blocked (j := 11) hD hL (by kernel_rfl))).cells
    refine .inl ?_
    go_simp
   refine dk 1 (.int .i64 ((k : Int) + 1)) rfl hS0 ?_ fun hS0 => ?_
   ·intro _; go_simp
   refine dk 2 (.int .i64 rm) rfl hS0 ?_ fun hS0 => ?_
   ·intro _; go_simp
   refine dk 5 (.int .i64 ((k : Int) + 1)) rfl hS0 ?_ fun hS0 => ?_
   ·intro _; go_simp
   simp only [List.getElem_toArray, List.getElem_cons_succ, List.getElem_cons_zero, Act.put, List.setIfInBounds_toArray, List.set_cons_zero, List.set_cons_succ]
   refine wpAnyD_one (i := 3) (by kernel_rfl) rfl (by kernel_rfl) (fun K hK => ?_)
   simp only [List.getElem_toArray, List.getElem_cons_succ, List.getElem_cons_zero]
   go_simp
   refine (RD.out _).mono ?_
   rintro _ w2 ⟨rfl, hb⟩
   replace hb : Below wr.heap.size wr w2 := (Below.refl wr.heap.size wr).drew.trans hb
   replace HS := Lib.hid (HS.out.below hb)
   clear hb hS0
   refine hK.out _ _ (fun _ => HS.out.bc) (fun hS0 => ?_)
   clear hK
   refine dk 4 (.string (⟨#[107]⟩ ++ D)) rfl hS0 ?_ fun hS0 => ?_
   ·intro _; go_simp
   simp only [List.getElem_toArray, List.getElem_cons_succ, List.getElem_cons_zero, Act.put, List.setIfInBounds_toArray, List.set_cons_zero, List.set_cons_succ]
   refine wpAnyD_one (i := 6) (by kernel_rfl) rfl (by kernel_rfl) (fun K hK => ?_)
   simp only [List.getElem_toArray, List.getElem_cons_succ, List.getElem_cons_zero]
   go_simp
   refine (HP.out _).mono ?_
   rintro _ w3 ⟨rfl, hb⟩
   replace HS := Lib.hid (HS.out.below hb)
   clear hb hS0
   refine hK.out _ _ (fun _ => HS.out.bc) (fun hS0 => ?_)
   clear hK
   refine wpAnyD_one (i := 7) (by kernel_rfl) rfl (by kernel_rfl) (fun K hK => ?_)
   simp only [List.getElem_toArray, List.getElem_cons_succ, List.getElem_cons_zero]
   go_simp
   refine (HDO.out _ _ _ HS.out).mono ?_
   rintro _ w4 ⟨a1, c1, b1, d1, rfl, ho, hm, hb⟩
   have HQ := Lib.hid (HS.out.store hb ho hm HSH.out.1 HSH.out.2.1 HSH.out.2.2)
   unfold bstore at HQ
   clear hS0
   have hB0 : BC w4 E s0 (.slice a s0.l.length c) (.slice b s0.ms.length d) := HS.out.bc.below hb
   clear HS ho hm hb
   refine hK.out _ _ (fun _ => hB0) (fun hS0 => ?_)
   clear hK
   refine dk 8 (.tuple #[.agg #[.int .i64 s1.seq, .slice a1 s1.l.length c1, .slice b1 s1.ms.length d1, .int .i64 s1.l1, .int .i64 s1.l2, .int .i64 s1.l3, .int .i64 s1.l4, .int .i64 s1.l5], .agg #[.int .i64 r1.err, .int .i64 r1.ver]]) rfl hS0 ?_ fun hS0 => ?_
   ·intro _; go_simp
   simp only [List.getElem_toArray, List.getElem_cons_succ, List.getElem_cons_zero, Act.put, List.setIfInBounds_toArray, List.set_cons_zero, List.set_cons_succ]
   refine dk 9 (.agg #[.int .i64 s1.seq, .slice a1 s1.l.length c1, .slice b1 s1.ms.length d1, .int .i64 s1.l1, .int .i64 s1.l2, .int .i64 s1.l3, .int .i64 s1.l4, .int .i64 s1.l5]) rfl hS0 ?_ fun hS0 => ?_
   ·intro _; go_simp
   simp only [List.getElem_toArray, List.getElem_cons_succ, List.getElem_cons_zero, Act.put, List.setIfInBounds_toArray, List.set_cons_zero, List.set_cons_succ]
   refine dk 10 (.agg #[.int .i64 r1.err, .int .i64 r1.ver]) rfl hS0 ?_ fun hS0 => ?_
   ·intro _; go_simp
   simp only [List.getElem_toArray, List.getElem_cons_succ, List.getElem_cons_zero, Act.put, List.setIfInBounds_toArray, List.set_cons_zero, List.set_cons_succ]
   obtain ⟨q0, q1, q2, q3, q4, q5, q6, q7⟩ := hB0.cells
   have ql := hB0.lt
   have f0 := hB0.free 0
   have f1 := hB0.free 1
   have f2 := hB0.free 2
   have f3 := hB0.free 3
   have f4 := hB0.free 4
   have f5 := hB0.free 5
   have f6 := hB0.free 6
   have f7 := hB0.free 7
   refine wpAnyD_one (i := 11) (by kernel_rfl) rfl (by kernel_rfl) (fun K hK => ?_)
   simp only [List.getElem_toArray, List.getElem_cons_succ, List.getElem_cons_zero]
   go_simp
   refine hK.out _ _ (fun h => (by cases h)) (fun hS0 => ?_)
   clear hK hS0
   refine wpAnyD_done (by kernel_rfl) ?_ _
   generalize ((((((((w4.setCell ⟨E, 0, none⟩ (.int .i64 s1.seq)).setCell ⟨E, 1, none⟩ (.slice a1 s1.l.length c1)).setCell ⟨E, 2, none⟩ (.slice b1 s1.ms.length d1)).setCell ⟨E, 3, none⟩ (.int .i64 s1.l1)).setCell ⟨E, 4, none⟩ (.int .i64 s1.l2)).setCell ⟨E, 5, none⟩ (.int .i64 s1.l3)).setCell ⟨E, 6, none⟩ (.int .i64 s1.l4)).setCell ⟨E, 7, none⟩ (.int .i64 s1.l5)) = W9 at *
   clear q0 q1 q2 q3 q4 q5 q6 q7 ql f0 f1 f2 f3 f4 f5 f6 f7 hB0
   go_wp2_with fail
   go_roundw
   case rel => exact ⟨k + 2, a1, c1, b1, d1, by go_num, by omega, by omega, Lib.hid (by have h := HQ.out; rw [← HSE.out] at h; exact h)⟩
   case measure => simp [intOf]; omega
  ·have hltz : ¬ (i : Int) ≤ (N : Int) := by omega
   have hiN1 : i - 1 = N := by omega
   rw [hiN1] at HS
   clear hiN1 hlt
   have hlS : (blS N).ms.length = N := by simp [blS]
   rw [hlS] at HS
   obtain ⟨⟨rz, hrz⟩, hmz, hwfz, hwf0, hwfE, hbmE, hlE, hshE⟩ := blE_step N LW HN.out.1 HN.out.2.1 HN.out.2.2
   have HDZ := fun u v W (h : SB w W E (blS N) u v) => do_sb (dlz N LW) h hwf0 hwfz hmz
   rw [hrz] at HDZ
   have HTL := Lib.hid (fun i (hi : i ≤ N) => bl_told N LW i HN.out.1 HN.out.2.1 HN.out.2.2 hi)
   have HAG := Lib.hid (fun i (h1 : 1 ≤ i) (hi : i ≤ N) => bl_again N LW i HN.out.1 HN.out.2.1 HN.out.2.2 h1 hi)
   have HSHE := Lib.hid hshE
   have HWE := Lib.hid hwfE
   obtain ⟨M, hMn⟩ : ∃ M : Nat, min LW (N + 1) = M := ⟨_, rfl⟩
   have hM : min (LW : Int) ((N : Int) + 1) = (M : Int) := by omega
   obtain ⟨Kn, hKn⟩ : ∃ K : Nat, blK N LW = K := ⟨_, rfl⟩
   have hKM : Kn = max 1 M := by rw [← hKn, ← hMn]; rfl
   have HMM := Lib.hid hM
   have hKx : max (1 : Int) (M : Int) = (Kn : Int) := by omega
   have hMb : M ≤ 21 := by have := HN.out; omega
   have hKb : 1 ≤ Kn ∧ Kn ≤ N + 1 := by have := HN.out; omega
   have hNb : N ≤ 20 := HN.out.2.1
   rw [hKn] at hlE HTL HAG
   have hw1 : IntKind.i64.wrap ((N : Int) + 1) = (N : Int) + 1 := IntWalk.i64_in _ (by omega)
   have hw2 : IntKind.i64.wrap (4294967296 + (M : Int)) = 4294967296 + (M : Int) := IntWalk.i64_in _ (by omega)
   have hw3 : IntKind.i64.wrap ((N : Int) + 2) = (N : Int) + 2 := IntWalk.i64_in _ (by omega)
   have hw4 : IntKind.i64.wrap ((N : Int) + 2 - (Kn : Int)) = ((N + 2 - Kn : Nat) : Int) := by
    have e : (N : Int) + 2 - (Kn : Int) = ((N + 2 - Kn : Nat) : Int) := by omega
    rw [e]
    exact IntWalk.i64_in _ (by omega)
   have HPZ := Lib.hid (lput_any ⟨#[122]⟩ ⟨#[118]⟩ ((N : Int) + 1) (by omega) (by omega))
   have HKF := Lib.hid (And.intro hKM (And.intro hKb hMb))
   have hbl : blL N LW = if LW = 0 then 0 else 4294967296 + (M : Int) := by unfold blL; rw [hMn]
   have hdq : (4294967296 : Int) + ((N + 1 : Nat) : Int) = 4294967296 + ((N : Int) + 1) := by omega
   unfold dlz at HDZ
   rw [hbl, hdq] at HDZ
   generalize hsN : blE N LW = sE at *
   generalize blS N = s0 at *
   have HSN := Lib.hid (And.intro hsN hlE)
   clear hrz hmz hwfz hwf0 hwfE hbmE hshE hlS hKM hKb hMb hbl hdq hKn hMn hsN
   unfold DoAns bagg dagg at HDZ
   dsimp only at HDZ
   obtain ⟨q0, q1, q2, q3, q4, q5, q6, q7⟩ := HS.out.bc.cells
   have ql := HS.out.bc.lt
   by_cases hz : LW = 0
   case pos =>
    have hzb : ((LW : Int) == 0) = true := by rw [beq_iff_eq]; omega
    simp only [hz, if_true] at HDZ
    have HDZ := Lib.hid HDZ
    clear hz
    go_wp2_with fail
    refine (HPZ.out _).mono ?_
    rintro _ w1 ⟨rfl, hb⟩
    replace HS := Lib.hid (HS.out.below hb)
    clear hb q0 q1 q2 q3 q4 q5 q6 q7 ql
    obtain ⟨q0, q1, q2, q3, q4, q5, q6, q7⟩ := HS.out.bc.cells
    have ql := HS.out.bc.lt
    go_wp2_with fail
    clear q0 q1 q2 q3 q4 q5 q6 q7 ql
    have hb : Below w1.heap.size w1 (w1.alloc (.cells #[.int .i64 1, .string ⟨#[122]⟩, .string ⟨#[118]⟩, .int .i64 0, .int .i64 0, .string ⟨#[]⟩, .int .i64 (4294967296 + ((N : Int) + 1)), .int .i64 0] 35)) := (Below.refl _ _).alloc (Nat.le_refl _) _
    replace HS := Lib.hid (HS.out.below hb)
    clear hb HPZ hM hw1 hw2
    have hM : min (LW : Int) ((N : Int) + 1) = (M : Int) := HMM.out
    generalize w1.alloc (.cells #[.int .i64 1, .string ⟨#[122]⟩, .string ⟨#[118]⟩, .int .i64 0, .int .i64 0, .string ⟨#[]⟩, .int .i64 (4294967296 + ((N : Int) + 1)), .int .i64 0] 35) = W1 at *
    generalize w1.heap.size = XD at *
    refine (HDZ.out _ _ _ HS.out).mono ?_
    rintro _ w2 ⟨a1, c1, b1, d1, rfl, ho, hm, hb⟩
    have HQ := Lib.hid (HS.out.store hb ho hm HSHE.out.1 HSHE.out.2.1 HSHE.out.2.2)
    unfold bstore at HQ
    have hB0 : BC w2 E s0 (.slice a s0.l.length c) (.slice b N d) := HS.out.bc.below hb
    clear HS ho hm hb HDZ
    obtain ⟨q0, q1, q2, q3, q4, q5, q6, q7⟩ := hB0.cells
    have ql := hB0.lt
    have f0 := hB0.free 0
    have f1 := hB0.free 1
    have f2 := hB0.free 2
    have f3 := hB0.free 3
    have f4 := hB0.free 4
    have f5 := hB0.free 5
    have f6 := hB0.free 6
    have f7 := hB0.free 7
    have hlE : sE.ms.length = N + 2 - Kn := HSN.out.2
    rw [hlE] at HQ ⊢
    clear hlE
    go_wp2_with fail
    clear q0 q1 q2 q3 q4 q5 q6 q7 ql f0 f1 f2 f3 f4 f5 f6 f7 hB0
    generalize (((((((w2.setCell ⟨E, 0, none⟩ (.int .i64 sE.seq)).setCell ⟨E, 1, none⟩ ((.slice a1 sE.l.length c1))).setCell ⟨E, 2, none⟩ ((.slice b1 (N + 2 - Kn) d1))).setCell ⟨E, 3, none⟩ (.int .i64 sE.l1)).setCell ⟨E, 4, none⟩ (.int .i64 sE.l2)).setCell ⟨E, 5, none⟩ (.int .i64 sE.l3)).setCell ⟨E, 6, none⟩ (.int .i64 sE.l4)).setCell ⟨E, 7, none⟩ (.int .i64 sE.l5) = W3 at *
    have HS := HQ
    clear HQ HMM hM hKx hw3 hw4
    go_loopw [10] (fun iv wr => ∃ i : Nat, iv = .int .i64 i ∧ 1 ≤ i ∧ i ≤ N + 1 ∧ Hid (SB w wr E sE (.slice a1 sE.l.length c1) (.slice b1 (N + 2 - Kn) d1))) (fun iv _ => N + 1 - (intOf iv).toNat)
    case atStart => exact ⟨1, rfl, by omega, by omega, HS⟩
    case round =>
     clear HS
     obtain ⟨j, rfl, hj1, hjN, HS⟩ := hrel
     by_cases hlt : j ≤ N
     ·have hltz : (j : Int) ≤ (N : Int) := by omega
      have hj20 : j ≤ 20 := by have := HN.out; omega
      have hwj : IntKind.i64.wrap (4294967296 + (j : Int)) = 4294967296 + (j : Int) := IntWalk.i64_in _ (by omega)
      have hwi : IntKind.i64.wrap ((j : Int) + 1) = (j : Int) + 1 := IntWalk.i64_in _ (by omega)
      have HPA := Lib.hid (lput_any ⟨#[107, 49]⟩ ⟨#[97, 103, 97, 105, 110]⟩ (j : Int) (by omega) (by omega))
      have HDA := fun u v W (h : SB w W E sE u v) => do_sb (dla j) h HWE.out (dla_may j hj1 hj20).2 (dla_may j hj1 hj20).1
      obtain ⟨s2, ra, hsa⟩ := pair_two (doB sE (dla j) true)
      have hag := HAG.out j hj1 hlt
      have htl := (HTL.out j hlt).1
      have hTT : (toldR sE.ms (4294967296 + (j : Int))).2 = decide (Kn ≤ j) := by rw [toldR_two]; exact htl
      rw [hsa] at HDA hag
      unfold DoAns bagg dagg dla at HDA
      dsimp only at HDA hag
      have HDA := Lib.hid HDA
      have HTO := fun u v W (h : BAt W sE u v) => told_p sE (4294967296 + (j : Int)) u v W h
      obtain ⟨te, hte⟩ : ∃ t, (toldR sE.ms (4294967296 + (j : Int))).1 = t := ⟨_, rfl⟩
      obtain ⟨ok, hok⟩ : ∃ b, decide (Kn ≤ j) = b := ⟨_, rfl⟩
      rw [hTT, hte, hok] at HTO
      have HOK := Lib.hid hok
      unfold bagg rtup at HTO
      have HTO := Lib.hid HTO
      have HAI := Lib.hid hag
      clear hag htl hTT hte hsa hok
      obtain ⟨q0, q1, q2, q3, q4, q5, q6, q7⟩ := HS.out.bc.cells
      have ql := HS.out.bc.lt
      go_wp2_with fail
      clear q0 q1 q2 q3 q4 q5 q6 q7 ql
      refine (HTO.out _ _ _ HS.out.at').mono ?_
      rintro _ x1 ⟨rfl, hb⟩
      replace HS := Lib.hid (HS.out.below hb)
      clear hb HTO
      go_wp2_with fail
      have hb : Below x1.heap.size x1 (x1.alloc (.cells #[.int .i64 te.err, .int .i64 te.ver] 30)) := (Below.refl _ _).alloc (Nat.le_refl _) _
      replace HS := Lib.hid (HS.out.below hb)
      clear hb
      generalize x1.alloc (.cells #[.int .i64 te.err, .int .i64 te.ver] 30) = W5 at *
      refine wp_region_D (S := fun L Y => L.getD 9 false = false → BC Y E sE (.slice a1 sE.l.length c1) (.slice b1 (N + 2 - Kn) d1)) (by kernel_rfl) (fun _ => HS.out.bc) (fun hS0 => ?_)
      change wpAnyD _ _ _ _ _ _ _ (World.drew W5)
      replace HS := Lib.hid (HS.out.below (Below.refl W5.heap.size W5).drew)
      generalize World.drew W5 = Wd at *
      refine wpAnyD_take (i := 0) (v := Value.agg #[.int .i64 sE.seq, .slice a1 sE.l.length c1, .slice b1 (N + 2 - Kn) d1, .int .i64 sE.l1, .int .i64 sE.l2, .int .i64 sE.l3, .int .i64 sE.l4, .int .i64 sE.l5]) rfl (by kernel_rfl) (by kernel_rfl) (by kernel_rfl) (by kernel_rfl) (fun _ _ _ h => h) (fun L w => by simp only [getD_set_ne false (by decide : (0 : Nat) ≠ 9)]) (by kernel_rfl) hS0 ⟨by rfl, fun L w' hL hD hS => ?_⟩ (fun hS0 => ?_)
      ·obtain ⟨q0, q1, q2, q3, q4, q5, q6, q7⟩ := (hS (blocked (j := 9) hD hL (by kernel_rfl))).cells
       refine .inl ?_
       go_simp
      simp only [List.getElem_toArray, List.getElem_cons_zero, Act.put, List.setIfInBounds_toArray, List.set_cons_zero, List.set_cons_succ]
      refine dk 1 (.int .i64 (j : Int)) rfl hS0 ?_ fun hS0 => ?_
      ·intro _; go_simp
      simp only [List.getElem_toArray, List.getElem_cons_succ, List.getElem_cons_zero, Act.put, List.setIfInBounds_toArray, List.set_cons_zero, List.set_cons_succ]
      obtain ⟨y0, hy0⟩ : ∃ y, y = Wd := ⟨_, rfl⟩
      have HY : Hid (Below Wd.heap.size Wd y0) := Lib.hid (by rw [hy0]; exact Below.refl _ _)
      rw [← hy0] at hS0 ⊢
      clear hy0
      refine wpAnyD_three (i := 2) (j := 7) (k := 8) (by kernel_rfl) rfl rfl rfl (by kernel_rfl) (fun K hK => ?A1) (fun K hK => ?A2) (fun K hK => ?A3)
      case' A3 =>
       simp only [List.getElem_toArray, List.getElem_cons_succ, List.getElem_cons_zero]
       go_simp
       obtain ⟨X14, y1, e1, e2, hb, hn⟩ := box_r y0
       rw [e1, e2]
       have LX14 := Lib.hid (e1 ▸ HY.out.size : Wd.heap.size ≤ X14)
       have H14 := Lib.hid hn
       clear hn e1 e2
       replace HY := Lib.hid (HY.out.trans (hb.mono HY.out.size))
       clear hb hS0
       refine hK.out _ _ (fun _ => (HS.out.below HY.out).bc) (fun hS0 => ?_)
       clear hK
       refine wpAnyD_two' (i := 2) (j := 7) (by kernel_rfl) rfl rfl (by kernel_rfl) (fun K hK => ?A4) (fun K hK => ?A5)
       case' A5 =>
        simp only [List.getElem_toArray, List.getElem_cons_succ, List.getElem_cons_zero]
        go_simp
        obtain ⟨X13, y2, e1, e2, hb, hn⟩ := box_s y1
        rw [e1, e2]
        have LX13 := Lib.hid (e1 ▸ HY.out.size : Wd.heap.size ≤ X13)
        have H13 := Lib.hid hn
        clear hn e1 e2
        replace H14 := Lib.hid (H14.out.below hb)
        replace HY := Lib.hid (HY.out.trans (hb.mono HY.out.size))
        clear hb hS0
        refine hK.out _ _ (fun _ => (HS.out.below HY.out).bc) (fun hS0 => ?_)
        clear hK
        refine wpAnyD_one (i := 2) (by kernel_rfl) rfl (by kernel_rfl) (fun K hK => ?_)
        simp only [List.getElem_toArray, List.getElem_cons_succ, List.getElem_cons_zero]
        go_simp
        refine (HPA.out _).mono ?_
        rintro _ y3 ⟨rfl, hb⟩
        replace H13 := Lib.hid (H13.out.below hb)
        replace H14 := Lib.hid (H14.out.below hb)
        replace HY := Lib.hid (HY.out.trans (hb.mono HY.out.size))
        clear hb hS0
        refine hK.out _ _ (fun _ => (HS.out.below HY.out).bc) (fun hS0 => ?_)
        clear hK
        refine wpAnyD_one (i := 3) (by kernel_rfl) rfl (by kernel_rfl) (fun K hK => ?_)
        simp only [List.getElem_toArray, List.getElem_cons_succ, List.getElem_cons_zero]
        go_simp
        refine (HDA.out _ _ _ (HS.out.below HY.out)).mono ?_
        rintro _ y4 ⟨a2, c2, b2, d2, rfl, ho, hm, hb⟩
        clear ho hm
        replace H13 := Lib.hid (H13.out.below hb)
        replace H14 := Lib.hid (H14.out.below hb)
        replace HY := Lib.hid (HY.out.trans (hb.mono HY.out.size))
        clear hb hS0
        refine hK.out _ _ (fun _ => (HS.out.below HY.out).bc) (fun hS0 => ?_)
        clear hK
        refine dk 4 (.tuple #[.agg #[.int .i64 s2.seq, .slice a2 s2.l.length c2, .slice b2 s2.ms.length d2, .int .i64 s2.l1, .int .i64 s2.l2, .int .i64 s2.l3, .int .i64 s2.l4, .int .i64 s2.l5], .agg #[.int .i64 ra.err, .int .i64 ra.ver]]) rfl hS0 ?_ fun hS0 => ?_
        ·intro _; go_simp
        refine dk 5 (.agg #[.int .i64 s2.seq, .slice a2 s2.l.length c2, .slice b2 s2.ms.length d2, .int .i64 s2.l1, .int .i64 s2.l2, .int .i64 s2.l3, .int .i64 s2.l4, .int .i64 s2.l5]) rfl hS0 ?_ fun hS0 => ?_
        ·intro _; go_simp
        refine dk 6 (.agg #[.int .i64 ra.err, .int .i64 ra.ver]) rfl hS0 ?_ fun hS0 => ?_
        ·intro _; go_simp
        simp only [List.getElem_toArray, List.getElem_cons_succ, List.getElem_cons_zero, Act.put, List.setIfInBounds_toArray, List.set_cons_zero, List.set_cons_succ]
       case' A4 =>
        simp only [List.getElem_toArray, List.getElem_cons_succ, List.getElem_cons_zero]
        go_simp
        refine (HPA.out _).mono ?_
        rintro _ y2 ⟨rfl, hb⟩
        replace H14 := Lib.hid (H14.out.below hb)
        replace HY := Lib.hid (HY.out.trans (hb.mono HY.out.size))
        clear hb hS0
        refine hK.out _ _ (fun _ => (HS.out.below HY.out).bc) (fun hS0 => ?_)
        clear hK
        refine wpAnyD_two' (i := 3) (j := 7) (by kernel_rfl) rfl rfl (by kernel_rfl) (fun K hK => ?A8) (fun K hK => ?A9)
        case' A9 =>
         simp only [List.getElem_toArray, List.getElem_cons_succ, List.getElem_cons_zero]
         go_simp
         obtain ⟨X13, y3, e1, e2, hb, hn⟩ := box_s y2
         rw [e1, e2]
         have LX13 := Lib.hid (e1 ▸ HY.out.size : Wd.heap.size ≤ X13)
         have H13 := Lib.hid hn
         clear hn e1 e2
         replace H14 := Lib.hid (H14.out.below hb)
         replace HY := Lib.hid (HY.out.trans (hb.mono HY.out.size))
         clear hb hS0
         refine hK.out _ _ (fun _ => (HS.out.below HY.out).bc) (fun hS0 => ?_)
         clear hK
         refine wpAnyD_one (i := 3) (by kernel_rfl) rfl (by kernel_rfl) (fun K hK => ?_)
         simp only [List.getElem_toArray, List.getElem_cons_succ, List.getElem_cons_zero]
         go_simp
         refine (HDA.out _ _ _ (HS.out.below HY.out)).mono ?_
         rintro _ y4 ⟨a2, c2, b2, d2, rfl, ho, hm, hb⟩
         clear ho hm
         replace H13 := Lib.hid (H13.out.below hb)
         replace H14 := Lib.hid (H14.out.below hb)
         replace HY := Lib.hid (HY.out.trans (hb.mono HY.out.size))
         clear hb hS0
         refine hK.out _ _ (fun _ => (HS.out.below HY.out).bc) (fun hS0 => ?_)
         clear hK
         refine dk 4 (.tuple #[.agg #[.int .i64 s2.seq, .slice a2 s2.l.length c2, .slice b2 s2.ms.length d2, .int .i64 s2.l1, .int .i64 s2.l2, .int .i64 s2.l3, .int .i64 s2.l4, .int .i64 s2.l5], .agg #[.int .i64 ra.err, .int .i64 ra.ver]]) rfl hS0 ?_ fun hS0 => ?_
         ·intro _; go_simp
         refine dk 5 (.agg #[.int .i64 s2.seq, .slice a2 s2.l.length c2, .slice b2 s2.ms.length d2, .int .i64 s2.l1, .int .i64 s2.l2, .int .i64 s2.l3, .int .i64 s2.l4, .int .i64 s2.l5]) rfl hS0 ?_ fun hS0 => ?_
         ·intro _; go_simp
         refine dk 6 (.agg #[.int .i64 ra.err, .int .i64 ra.ver]) rfl hS0 ?_ fun hS0 => ?_
         ·intro _; go_simp
         simp only [List.getElem_toArray, List.getElem_cons_succ, List.getElem_cons_zero, Act.put, List.setIfInBounds_toArray, List.set_cons_zero, List.set_cons_succ]
        case' A8 =>
         simp only [List.getElem_toArray, List.getElem_cons_succ, List.getElem_cons_zero]
         go_simp
         refine (HDA.out _ _ _ (HS.out.below HY.out)).mono ?_
         rintro _ y3 ⟨a2, c2, b2, d2, rfl, ho, hm, hb⟩
         clear ho hm
         replace H14 := Lib.hid (H14.out.below hb)
         replace HY := Lib.hid (HY.out.trans (hb.mono HY.out.size))
         clear hb hS0
         refine hK.out _ _ (fun _ => (HS.out.below HY.out).bc) (fun hS0 => ?_)
         clear hK
         refine dk 4 (.tuple #[.agg #[.int .i64 s2.seq, .slice a2 s2.l.length c2, .slice b2 s2.ms.length d2, .int .i64 s2.l1, .int .i64 s2.l2, .int .i64 s2.l3, .int .i64 s2.l4, .int .i64 s2.l5], .agg #[.int .i64 ra.err, .int .i64 ra.ver]]) rfl hS0 ?_ fun hS0 => ?_
         ·intro _; go_simp
         refine dk 5 (.agg #[.int .i64 s2.seq, .slice a2 s2.l.length c2, .slice b2 s2.ms.length d2, .int .i64 s2.l1, .int .i64 s2.l2, .int .i64 s2.l3, .int .i64 s2.l4, .int .i64 s2.l5]) rfl hS0 ?_ fun hS0 => ?_
         ·intro _; go_simp
         refine dk 6 (.agg #[.int .i64 ra.err, .int .i64 ra.ver]) rfl hS0 ?_ fun hS0 => ?_
         ·intro _; go_simp
         simp only [List.getElem_toArray, List.getElem_cons_succ, List.getElem_cons_zero, Act.put, List.setIfInBounds_toArray, List.set_cons_zero, List.set_cons_succ]
         refine wpAnyD_one (i := 7) (by kernel_rfl) rfl (by kernel_rfl) (fun K hK => ?_)
         simp only [List.getElem_toArray, List.getElem_cons_succ, List.getElem_cons_zero]
         go_simp
         obtain ⟨X13, y4, e1, e2, hb, hn⟩ := box_s y3
         rw [e1, e2]
         have LX13 := Lib.hid (e1 ▸ HY.out.size : Wd.heap.size ≤ X13)
         have H13 := Lib.hid hn
         clear hn e1 e2
         replace H14 := Lib.hid (H14.out.below hb)
         replace HY := Lib.hid (HY.out.trans (hb.mono HY.out.size))
         clear hb hS0
         refine hK.out _ _ (fun _ => (HS.out.below HY.out).bc) (fun hS0 => ?_)
         clear hK
      case' A2 =>
       simp only [List.getElem_toArray, List.getElem_cons_succ, List.getElem_cons_zero]
       go_simp
       obtain ⟨X13, y1, e1, e2, hb, hn⟩ := box_s y0
       rw [e1, e2]
       have LX13 := Lib.hid (e1 ▸ HY.out.size : Wd.heap.size ≤ X13)
       have H13 := Lib.hid hn
       clear hn e1 e2
       replace HY := Lib.hid (HY.out.trans (hb.mono HY.out.size))
       clear hb hS0
       refine hK.out _ _ (fun _ => (HS.out.below HY.out).bc) (fun hS0 => ?_)
       clear hK
       refine wpAnyD_two' (i := 2) (j := 8) (by kernel_rfl) rfl rfl (by kernel_rfl) (fun K hK => ?A12) (fun K hK => ?A13)
       case' A13 =>
        simp only [List.getElem_toArray, List.getElem_cons_succ, List.getElem_cons_zero]
        go_simp
        obtain ⟨X14, y2, e1, e2, hb, hn⟩ := box_r y1
        rw [e1, e2]
        have LX14 := Lib.hid (e1 ▸ HY.out.size : Wd.heap.size ≤ X14)
        have H14 := Lib.hid hn
        clear hn e1 e2
        replace H13 := Lib.hid (H13.out.below hb)
        replace HY := Lib.hid (HY.out.trans (hb.mono HY.out.size))
        clear hb hS0
        refine hK.out _ _ (fun _ => (HS.out.below HY.out).bc) (fun hS0 => ?_)
        clear hK
        refine wpAnyD_one (i := 2) (by kernel_rfl) rfl (by kernel_rfl) (fun K hK => ?_)
        simp only [List.getElem_toArray, List.getElem_cons_succ, List.getElem_cons_zero]
        go_simp
        refine (HPA.out _).mono ?_
        rintro _ y3 ⟨rfl, hb⟩
        replace H13 := Lib.hid (H13.out.below hb)
        replace H14 := Lib.hid (H14.out.below hb)
        replace HY := Lib.hid (HY.out.trans (hb.mono HY.out.size))
        clear hb hS0
        refine hK.out _ _ (fun _ => (HS.out.below HY.out).bc) (fun hS0 => ?_)
        clear hK
        refine wpAnyD_one (i := 3) (by kernel_rfl) rfl (by kernel_rfl) (fun K hK => ?_)
        simp only [List.getElem_toArray, List.getElem_cons_succ, List.getElem_cons_zero]
        go_simp
        refine (HDA.out _ _ _ (HS.out.below HY.out)).mono ?_
        rintro _ y4 ⟨a2, c2, b2, d2, rfl, ho, hm, hb⟩
        clear ho hm
        replace H13 := Lib.hid (H13.out.below hb)
        replace H14 := Lib.hid (H14.out.below hb)
        replace HY := Lib.hid (HY.out.trans (hb.mono HY.out.size))
        clear hb hS0
        refine hK.out _ _ (fun _ => (HS.out.below HY.out).bc) (fun hS0 => ?_)
        clear hK
        refine dk 4 (.tuple #[.agg #[.int .i64 s2.seq, .slice a2 s2.l.length c2, .slice b2 s2.ms.length d2, .int .i64 s2.l1, .int .i64 s2.l2, .int .i64 s2.l3, .int .i64 s2.l4, .int .i64 s2.l5], .agg #[.int .i64 ra.err, .int .i64 ra.ver]]) rfl hS0 ?_ fun hS0 => ?_
        ·intro _; go_simp
        refine dk 5 (.agg #[.int .i64 s2.seq, .slice a2 s2.l.length c2, .slice b2 s2.ms.length d2, .int .i64 s2.l1, .int .i64 s2.l2, .int .i64 s2.l3, .int .i64 s2.l4, .int .i64 s2.l5]) rfl hS0 ?_ fun hS0 => ?_
        ·intro _; go_simp
        refine dk 6 (.agg #[.int .i64 ra.err, .int .i64 ra.ver]) rfl hS0 ?_ fun hS0 => ?_
        ·intro _; go_simp
        simp only [List.getElem_toArray, List.getElem_cons_succ, List.getElem_cons_zero, Act.put, List.setIfInBounds_toArray, List.set_cons_zero, List.set_cons_succ]
       case' A12 =>
        simp only [List.getElem_toArray, List.getElem_cons_succ, List.getElem_cons_zero]
        go_simp
        refine (HPA.out _).mono ?_
        rintro _ y2 ⟨rfl, hb⟩
        replace H13 := Lib.hid (H13.out.below hb)
        replace HY := Lib.hid (HY.out.trans (hb.mono HY.out.size))
        clear hb hS0
        refine hK.out _ _ (fun _ => (HS.out.below HY.out).bc) (fun hS0 => ?_)
        clear hK
        refine wpAnyD_two' (i := 3) (j := 8) (by kernel_rfl) rfl rfl (by kernel_rfl) (fun K hK => ?A16) (fun K hK => ?A17)
        case' A17 =>
         simp only [List.getElem_toArray, List.getElem_cons_succ, List.getElem_cons_zero]
         go_simp
         obtain ⟨X14, y3, e1, e2, hb, hn⟩ := box_r y2
         rw [e1, e2]
         have LX14 := Lib.hid (e1 ▸ HY.out.size : Wd.heap.size ≤ X14)
         have H14 := Lib.hid hn
         clear hn e1 e2
         replace H13 := Lib.hid (H13.out.below hb)
         replace HY := Lib.hid (HY.out.trans (hb.mono HY.out.size))
         clear hb hS0
         refine hK.out _ _ (fun _ => (HS.out.below HY.out).bc) (fun hS0 => ?_)
         clear hK
         refine wpAnyD_one (i := 3) (by kernel_rfl) rfl (by kernel_rfl) (fun K hK => ?_)
         simp only [List.getElem_toArray, List.getElem_cons_succ, List.getElem_cons_zero]
         go_simp
         refine (HDA.out _ _ _ (HS.out.below HY.out)).mono ?_
         rintro _ y4 ⟨a2, c2, b2, d2, rfl, ho, hm, hb⟩
         clear ho hm
         replace H13 := Lib.hid (H13.out.below hb)
         replace H14 := Lib.hid (H14.out.below hb)
         replace HY := Lib.hid (HY.out.trans (hb.mono HY.out.size))
         clear hb hS0
         refine hK.out _ _ (fun _ => (HS.out.below HY.out).bc) (fun hS0 => ?_)
         clear hK
         refine dk 4 (.tuple #[.agg #[.int .i64 s2.seq, .slice a2 s2.l.length c2, .slice b2 s2.ms.length d2, .int .i64 s2.l1, .int .i64 s2.l2, .int .i64 s2.l3, .int .i64 s2.l4, .int .i64 s2.l5], .agg #[.int .i64 ra.err, .int .i64 ra.ver]]) rfl hS0 ?_ fun hS0 => ?_
         ·intro _; go_simp
         refine dk 5 (.agg #[.int .i64 s2.seq, .slice a2 s2.l.length c2, .slice b2 s2.ms.length d2, .int .i64 s2.l1, .int .i64 s2.l2, .int .i64 s2.l3, .int .i64 s2.l4, .int .i64 s2.l5]) rfl hS0 ?_ fun hS0 => ?_
         ·intro _; go_simp
         refine dk 6 (.agg #[.int .i64 ra.err, .int .i64 ra.ver]) rfl hS0 ?_ fun hS0 => ?_
         ·intro _; go_simp
         simp only [List.getElem_toArray, List.getElem_cons_succ, List.getElem_cons_zero, Act.put, List.setIfInBounds_toArray, List.set_cons_zero, List.set_cons_succ]
        case' A16 =>
         simp only [List.getElem_toArray, List.getElem_cons_succ, List.getElem_cons_zero]
         go_simp
         refine (HDA.out _ _ _ (HS.out.below HY.out)).mono ?_
         rintro _ y3 ⟨a2, c2, b2, d2, rfl, ho, hm, hb⟩
         clear ho hm
         replace H13 := Lib.hid (H13.out.below hb)
         replace HY := Lib.hid (HY.out.trans (hb.mono HY.out.size))
         clear hb hS0
         refine hK.out _ _ (fun _ => (HS.out.below HY.out).bc) (fun hS0 => ?_)
         clear hK
         refine dk 4 (.tuple #[.agg #[.int .i64 s2.seq, .slice a2 s2.l.length c2, .slice b2 s2.ms.length d2, .int .i64 s2.l1, .int .i64 s2.l2, .int .i64 s2.l3, .int .i64 s2.l4, .int .i64 s2.l5], .agg #[.int .i64 ra.err, .int .i64 ra.ver]]) rfl hS0 ?_ fun hS0 => ?_
         ·intro _; go_simp
         refine dk 5 (.agg #[.int .i64 s2.seq, .slice a2 s2.l.length c2, .slice b2 s2.ms.length d2, .int .i64 s2.l1, .int .i64 s2.l2, .int .i64 s2.l3, .int .i64 s2.l4, .int .i64 s2.l5]) rfl hS0 ?_ fun hS0 => ?_
         ·intro _; go_simp
         refine dk 6 (.agg #[.int .i64 ra.err, .int .i64 ra.ver]) rfl hS0 ?_ fun hS0 => ?_
         ·intro _; go_simp
         simp only [List.getElem_toArray, List.getElem_cons_succ, List.getElem_cons_zero, Act.put, List.setIfInBounds_toArray, List.set_cons_zero, List.set_cons_succ]
         refine wpAnyD_one (i := 8) (by kernel_rfl) rfl (by kernel_rfl) (fun K hK => ?_)
         simp only [List.getElem_toArray, List.getElem_cons_succ, List.getElem_cons_zero]
         go_simp
         obtain ⟨X14, y4, e1, e2, hb, hn⟩ := box_r y3
         rw [e1, e2]
         have LX14 := Lib.hid (e1 ▸ HY.out.size : Wd.heap.size ≤ X14)
         have H14 := Lib.hid hn
         clear hn e1 e2
         replace H13 := Lib.hid (H13.out.below hb)
         replace HY := Lib.hid (HY.out.trans (hb.mono HY.out.size))
         clear hb hS0
         refine hK.out _ _ (fun _ => (HS.out.below HY.out).bc) (fun hS0 => ?_)
         clear hK
      case' A1 =>
       simp only [List.getElem_toArray, List.getElem_cons_succ, List.getElem_cons_zero]
       go_simp
       refine (HPA.out _).mono ?_
       rintro _ y1 ⟨rfl, hb⟩
       replace HY := Lib.hid (HY.out.trans (hb.mono HY.out.size))
       clear hb hS0
       refine hK.out _ _ (fun _ => (HS.out.below HY.out).bc) (fun hS0 => ?_)
       clear hK
       refine wpAnyD_three (i := 3) (j := 7) (k := 8) (by kernel_rfl) rfl rfl rfl (by kernel_rfl) (fun K hK => ?A20) (fun K hK => ?A21) (fun K hK => ?A22)
       case' A22 =>
        simp only [List.getElem_toArray, List.getElem_cons_succ, List.getElem_cons_zero]
        go_simp
        obtain ⟨X14, y2, e1, e2, hb, hn⟩ := box_r y1
        rw [e1, e2]
        have LX14 := Lib.hid (e1 ▸ HY.out.size : Wd.heap.size ≤ X14)
        have H14 := Lib.hid hn
        clear hn e1 e2
        replace HY := Lib.hid (HY.out.trans (hb.mono HY.out.size))
        clear hb hS0
        refine hK.out _ _ (fun _ => (HS.out.below HY.out).bc) (fun hS0 => ?_)
        clear hK
        refine wpAnyD_two' (i := 3) (j := 7) (by kernel_rfl) rfl rfl (by kernel_rfl) (fun K hK => ?A23) (fun K hK => ?A24)
        case' A24 =>
         simp only [List.getElem_toArray, List.getElem_cons_succ, List.getElem_cons_zero]
         go_simp
         obtain ⟨X13, y3, e1, e2, hb, hn⟩ := box_s y2
         rw [e1, e2]
         have LX13 := Lib.hid (e1 ▸ HY.out.size : Wd.heap.size ≤ X13)
         have H13 := Lib.hid hn
         clear hn e1 e2
         replace H14 := Lib.hid (H14.out.below hb)
         replace HY := Lib.hid (HY.out.trans (hb.mono HY.out.size))
         clear hb hS0
         refine hK.out _ _ (fun _ => (HS.out.below HY.out).bc) (fun hS0 => ?_)
         clear hK
         refine wpAnyD_one (i := 3) (by kernel_rfl) rfl (by kernel_rfl) (fun K hK => ?_)
         simp only [List.getElem_toArray, List.getElem_cons_succ, List.getElem_cons_zero]
         go_simp
         refine (HDA.out _ _ _ (HS.out.below HY.out)).mono ?_
         rintro _ y4 ⟨a2, c2, b2, d2, rfl, ho, hm, hb⟩
         clear ho hm
         replace H13 := Lib.hid (H13.out.below hb)
         replace H14 := Lib.hid (H14.out.below hb)
         replace HY := Lib.hid (HY.out.trans (hb.mono HY.out.size))
         clear hb hS0
         refine hK.out _ _ (fun _ => (HS.out.below HY.out).bc) (fun hS0 => ?_)
         clear hK
         refine dk 4 (.tuple #[.agg #[.int .i64 s2.seq, .slice a2 s2.l.length c2, .slice b2 s2.ms.length d2, .int .i64 s2.l1, .int .i64 s2.l2, .int .i64 s2.l3, .int .i64 s2.l4, .int .i64 s2.l5], .agg #[.int .i64 ra.err, .int .i64 ra.ver]]) rfl hS0 ?_ fun hS0 => ?_
         ·intro _; go_simp
         refine dk 5 (.agg #[.int .i64 s2.seq, .slice a2 s2.l.length c2, .slice b2 s2.ms.length d2, .int .i64 s2.l1, .int .i64 s2.l2, .int .i64 s2.l3, .int .i64 s2.l4, .int .i64 s2.l5]) rfl hS0 ?_ fun hS0 => ?_
         ·intro _; go_simp
         refine dk 6 (.agg #[.int .i64 ra.err, .int .i64 ra.ver]) rfl hS0 ?_ fun hS0 => ?_
         ·intro _; go_simp
         simp only [List.getElem_toArray, List.getElem_cons_succ, List.getElem_cons_zero, Act.put, List.setIfInBounds_toArray, List.set_cons_zero, List.set_cons_succ]
        case' A23 =>
         simp only [List.getElem_toArray, List.getElem_cons_succ, List.getElem_cons_zero]
         go_simp
         refine (HDA.out _ _ _ (HS.out.below HY.out)).mono ?_
         rintro _ y3 ⟨a2, c2, b2, d2, rfl, ho, hm, hb⟩
         clear ho hm
         replace H14 := Lib.hid (H14.out.below hb)
         replace HY := Lib.hid (HY.out.trans (hb.mono HY.out.size))
         clear hb hS0
         refine hK.out _ _ (fun _ => (HS.out.below HY.out).bc) (fun hS0 => ?_)
         clear hK
         refine dk 4 (.tuple #[.agg #[.int .i64 s2.seq, .slice a2 s2.l.length c2, .slice b2 s2.ms.length d2, .int .i64 s2.l1, .int .i64 s2.l2, .int .i64 s2.l3, .int .i64 s2.l4, .int .i64 s2.l5], .agg #[.int .i64 ra.err, .int .i64 ra.ver]]) rfl hS0 ?_ fun hS0 => ?_
         ·intro _; go_simp
         refine dk 5 (.agg #[.int .i64 s2.seq, .slice a2 s2.l.length c2, .slice b2 s2.ms.length d2, .int .i64 s2.l1, .int .i64 s2.l2, .int .i64 s2.l3, .int .i64 s2.l4, .int .i64 s2.l5]) rfl hS0 ?_ fun hS0 => ?_
         ·intro _; go_simp
         refine dk 6 (.agg #[.int .i64 ra.err, .int .i64 ra.ver]) rfl hS0 ?_ fun hS0 => ?_
         ·intro _; go_simp
         simp only [List.getElem_toArray, List.getElem_cons_succ, List.getElem_cons_zero, Act.put, List.setIfInBounds_toArray, List.set_cons_zero, List.set_cons_succ]
         refine wpAnyD_one (i := 7) (by kernel_rfl) rfl (by kernel_rfl) (fun K hK => ?_)
         simp only [List.getElem_toArray, List.getElem_cons_succ, List.getElem_cons_zero]
         go_simp
         obtain ⟨X13, y4, e1, e2, hb, hn⟩ := box_s y3
         rw [e1, e2]
         have LX13 := Lib.hid (e1 ▸ HY.out.size : Wd.heap.size ≤ X13)
         have H13 := Lib.hid hn
         clear hn e1 e2
         replace H14 := Lib.hid (H14.out.below hb)
         replace HY := Lib.hid (HY.out.trans (hb.mono HY.out.size))
         clear hb hS0
         refine hK.out _ _ (fun _ => (HS.out.below HY.out).bc) (fun hS0 => ?_)
         clear hK
       case' A21 =>
        simp only [List.getElem_toArray, List.getElem_cons_succ, List.getElem_cons_zero]
        go_simp
        obtain ⟨X13, y2, e1, e2, hb, hn⟩ := box_s y1
        rw [e1, e2]
        have LX13 := Lib.hid (e1 ▸ HY.out.size : Wd.heap.size ≤ X13)
        have H13 := Lib.hid hn
        clear hn e1 e2
        replace HY := Lib.hid (HY.out.trans (hb.mono HY.out.size))
        clear hb hS0
        refine hK.out _ _ (fun _ => (HS.out.below HY.out).bc) (fun hS0 => ?_)
        clear hK
        refine wpAnyD_two' (i := 3) (j := 8) (by kernel_rfl) rfl rfl (by kernel_rfl) (fun K hK => ?A27) (fun K hK => ?A28)
        case' A28 =>
         simp only [List.getElem_toArray, List.getElem_cons_succ, List.getElem_cons_zero]
         go_simp
         obtain ⟨X14, y3, e1, e2, hb, hn⟩ := box_r y2
         rw [e1, e2]
         have LX14 := Lib.hid (e1 ▸ HY.out.size : Wd.heap.size ≤ X14)
         have H14 := Lib.hid hn
         clear hn e1 e2
         replace H13 := Lib.hid (H13.out.below hb)
         replace HY := Lib.hid (HY.out.trans (hb.mono HY.out.size))
         clear hb hS0
         refine hK.out _ _ (fun _ => (HS.out.below HY.out).bc) (fun hS0 => ?_)
         clear hK
         refine wpAnyD_one (i := 3) (by kernel_rfl) rfl (by kernel_rfl) (fun K hK => ?_)
         simp only [List.getElem_toArray, List.getElem_cons_succ, List.getElem_cons_zero]
         go_simp
         refine (HDA.out _ _ _ (HS.out.below HY.out)).mono ?_
         rintro _ y4 ⟨a2, c2, b2, d2, rfl, ho, hm, hb⟩
         clear ho hm
         replace H13 := Lib.hid (H13.out.below hb)
         replace H14 := Lib.hid (H14.out.below hb)
         replace HY := Lib.hid (HY.out.trans (hb.mono HY.out.size))
         clear hb hS0
         refine hK.out _ _ (fun _ => (HS.out.below HY.out).bc) (fun hS0 => ?_)
         clear hK
         refine dk 4 (.tuple #[.agg #[.int .i64 s2.seq, .slice a2 s2.l.length c2, .slice b2 s2.ms.length d2, .int .i64 s2.l1, .int .i64 s2.l2, .int .i64 s2.l3, .int .i64 s2.l4, .int .i64 s2.l5], .agg #[.int .i64 ra.err, .int .i64 ra.ver]]) rfl hS0 ?_ fun hS0 => ?_
         ·intro _; go_simp
         refine dk 5 (.agg #[.int .i64 s2.seq, .slice a2 s2.l.length c2, .slice b2 s2.ms.length d2, .int .i64 s2.l1, .int .i64 s2.l2, .int .i64 s2.l3, .int .i64 s2.l4, .int .i64 s2.l5]) rfl hS0 ?_ fun hS0 => ?_
         ·intro _; go_simp
         refine dk 6 (.agg #[.int .i64 ra.err, .int .i64 ra.ver]) rfl hS0 ?_ fun hS0 => ?_
         ·intro _; go_simp
         simp only [List.getElem_toArray, List.getElem_cons_succ, List.getElem_cons_zero, Act.put, List.setIfInBounds_toArray, List.set_cons_zero, List.set_cons_succ]
        case' A27 =>
         simp only [List.getElem_toArray, List.getElem_cons_succ, List.getElem_cons_zero]
         go_simp
         refine (HDA.out _ _ _ (HS.out.below HY.out)).mono ?_
         rintro _ y3 ⟨a2, c2, b2, d2, rfl, ho, hm, hb⟩
         clear ho hm
         replace H13 := Lib.hid (H13.out.below hb)
         replace HY := Lib.hid (HY.out.trans (hb.mono HY.out.size))
         clear hb hS0
         refine hK.out _ _ (fun _ => (HS.out.below HY.out).bc) (fun hS0 => ?_)
         clear hK
         refine dk 4 (.tuple #[.agg #[.int .i64 s2.seq, .slice a2 s2.l.length c2, .slice b2 s2.ms.length d2, .int .i64 s2.l1, .int .i64 s2.l2, .int .i64 s2.l3, .int .i64 s2.l4, .int .i64 s2.l5], .agg #[.int .i64 ra.err, .int .i64 ra.ver]]) rfl hS0 ?_ fun hS0 => ?_
         ·intro _; go_simp
         refine dk 5 (.agg #[.int .i64 s2.seq, .slice a2 s2.l.length c2, .slice b2 s2.ms.length d2, .int .i64 s2.l1, .int .i64 s2.l2, .int .i64 s2.l3, .int .i64 s2.l4, .int .i64 s2.l5]) rfl hS0 ?_ fun hS0 => ?_
         ·intro _; go_simp
         refine dk 6 (.agg #[.int .i64 ra.err, .int .i64 ra.ver]) rfl hS0 ?_ fun hS0 => ?_
         ·intro _; go_simp
         simp only [List.getElem_toArray, List.getElem_cons_succ, List.getElem_cons_zero, Act.put, List.setIfInBounds_toArray, List.set_cons_zero, List.set_cons_succ]
         refine wpAnyD_one (i := 8) (by kernel_rfl) rfl (by kernel_rfl) (fun K hK => ?_)
         simp only [List.getElem_toArray, List.getElem_cons_succ, List.getElem_cons_zero]
         go_simp
         obtain ⟨X14, y4, e1, e2, hb, hn⟩ := box_r y3
         rw [e1, e2]
         have LX14 := Lib.hid (e1 ▸ HY.out.size : Wd.heap.size ≤ X14)
         have H14 := Lib.hid hn
         clear hn e1 e2
         replace H13 := Lib.hid (H13.out.below hb)
         replace HY := Lib.hid (HY.out.trans (hb.mono HY.out.size))
         clear hb hS0
         refine hK.out _ _ (fun _ => (HS.out.below HY.out).bc) (fun hS0 => ?_)
         clear hK
       case' A20 =>
        simp only [List.getElem_toArray, List.getElem_cons_succ, List.getElem_cons_zero]
        go_simp
        refine (HDA.out _ _ _ (HS.out.below HY.out)).mono ?_
        rintro _ y2 ⟨a2, c2, b2, d2, rfl, ho, hm, hb⟩
        clear ho hm
        replace HY := Lib.hid (HY.out.trans (hb.mono HY.out.size))
        clear hb hS0
        refine hK.out _ _ (fun _ => (HS.out.below HY.out).bc) (fun hS0 => ?_)
        clear hK
        refine dk 4 (.tuple #[.agg #[.int .i64 s2.seq, .slice a2 s2.l.length c2, .slice b2 s2.ms.length d2, .int .i64 s2.l1, .int .i64 s2.l2, .int .i64 s2.l3, .int .i64 s2.l4, .int .i64 s2.l5], .agg #[.int .i64 ra.err, .int .i64 ra.ver]]) rfl hS0 ?_ fun hS0 => ?_
        ·intro _; go_simp
        refine dk 5 (.agg #[.int .i64 s2.seq, .slice a2 s2.l.length c2, .slice b2 s2.ms.length d2, .int .i64 s2.l1, .int .i64 s2.l2, .int .i64 s2.l3, .int .i64 s2.l4, .int .i64 s2.l5]) rfl hS0 ?_ fun hS0 => ?_
        ·intro _; go_simp
        refine dk 6 (.agg #[.int .i64 ra.err, .int .i64 ra.ver]) rfl hS0 ?_ fun hS0 => ?_
        ·intro _; go_simp
        simp only [List.getElem_toArray, List.getElem_cons_succ, List.getElem_cons_zero, Act.put, List.setIfInBounds_toArray, List.set_cons_zero, List.set_cons_succ]
        refine wpAnyD_two' (i := 7) (j := 8) (by kernel_rfl) rfl rfl (by kernel_rfl) (fun K hK => ?A31) (fun K hK => ?A32)
        case' A32 =>
         simp only [List.getElem_toArray, List.getElem_cons_succ, List.getElem_cons_zero]
         go_simp
         obtain ⟨X14, y3, e1, e2, hb, hn⟩ := box_r y2
         rw [e1, e2]
         have LX14 := Lib.hid (e1 ▸ HY.out.size : Wd.heap.size ≤ X14)
         have H14 := Lib.hid hn
         clear hn e1 e2
         replace HY := Lib.hid (HY.out.trans (hb.mono HY.out.size))
         clear hb hS0
         refine hK.out _ _ (fun _ => (HS.out.below HY.out).bc) (fun hS0 => ?_)
         clear hK
         refine wpAnyD_one (i := 7) (by kernel_rfl) rfl (by kernel_rfl) (fun K hK => ?_)
         simp only [List.getElem_toArray, List.getElem_cons_succ, List.getElem_cons_zero]
         go_simp
         obtain ⟨X13, y4, e1, e2, hb, hn⟩ := box_s y3
         rw [e1, e2]
         have LX13 := Lib.hid (e1 ▸ HY.out.size : Wd.heap.size ≤ X13)
         have H13 := Lib.hid hn
         clear hn e1 e2
         replace H14 := Lib.hid (H14.out.below hb)
         replace HY := Lib.hid (HY.out.trans (hb.mono HY.out.size))
         clear hb hS0
         refine hK.out _ _ (fun _ => (HS.out.below HY.out).bc) (fun hS0 => ?_)
         clear hK
        case' A31 =>
         simp only [List.getElem_toArray, List.getElem_cons_succ, List.getElem_cons_zero]
         go_simp
         obtain ⟨X13, y3, e1, e2, hb, hn⟩ := box_s y2
         rw [e1, e2]
         have LX13 := Lib.hid (e1 ▸ HY.out.size : Wd.heap.size ≤ X13)
         have H13 := Lib.hid hn
         clear hn e1 e2
         replace HY := Lib.hid (HY.out.trans (hb.mono HY.out.size))
         clear hb hS0
         refine hK.out _ _ (fun _ => (HS.out.below HY.out).bc) (fun hS0 => ?_)
         clear hK
         refine wpAnyD_one (i := 8) (by kernel_rfl) rfl (by kernel_rfl) (fun K hK => ?_)
         simp only [List.getElem_toArray, List.getElem_cons_succ, List.getElem_cons_zero]
         go_simp
         obtain ⟨X14, y4, e1, e2, hb, hn⟩ := box_r y3
         rw [e1, e2]
         have LX14 := Lib.hid (e1 ▸ HY.out.size : Wd.heap.size ≤ X14)
         have H14 := Lib.hid hn
         clear hn e1 e2
         replace H13 := Lib.hid (H13.out.below hb)
         replace HY := Lib.hid (HY.out.trans (hb.mono HY.out.size))
         clear hb hS0
         refine hK.out _ _ (fun _ => (HS.out.below HY.out).bc) (fun hS0 => ?_)
         clear hK
      all_goals
       have hxe : X14 ≠ X13 := rc_ne H14.out H13.out
       obtain ⟨q0, q1, q2, q3, q4, q5, q6, q7⟩ := H13.out.cells
       have ql := H13.out.lt
       have f0 := H13.out.free 0
       have f1 := H13.out.free 1
       have f2 := H13.out.free 2
       have f3 := H13.out.free 3
       have f4 := H13.out.free 4
       have f5 := H13.out.free 5
       have f6 := H13.out.free 6
       have f7 := H13.out.free 7
       have hz1 := bstore_below s2 (.slice a2 s2.l.length c2) (.slice b2 s2.ms.length d2) LX13.out HY.out
       have hz2 := (bstore_rc s2 (.slice a2 s2.l.length c2) (.slice b2 s2.ms.length d2) hxe).2 H14.out
       unfold bstore at hz1 hz2
       refine wpAnyD_one (i := 9) (by kernel_rfl) rfl (by kernel_rfl) (fun K hK => ?_)
       simp only [List.getElem_toArray, List.getElem_cons_succ, List.getElem_cons_zero]
       go_simp
       refine hK.out _ _ (fun h => (by cases h)) (fun hS0' => ?_)
       clear hK hS0 hS0' q0 q1 q2 q3 q4 q5 q6 q7 ql f0 f1 f2 f3 f4 f5 f6 f7 H13 H14 HY hxe
       generalize (((((((y4.setCell ⟨X13, 0, none⟩ (.int .i64 s2.seq)).setCell ⟨X13, 1, none⟩ (.slice a2 s2.l.length c2)).setCell ⟨X13, 2, none⟩ (.slice b2 s2.ms.length d2)).setCell ⟨X13, 3, none⟩ (.int .i64 s2.l1)).setCell ⟨X13, 4, none⟩ (.int .i64 s2.l2)).setCell ⟨X13, 5, none⟩ (.int .i64 s2.l3)).setCell ⟨X13, 6, none⟩ (.int .i64 s2.l4)).setCell ⟨X13, 7, none⟩ (.int .i64 s2.l5) = y5 at *
       obtain ⟨x0, x1, g0, g1⟩ := hz2.facts
       dsimp only at x0 x1
       have xl := hz2.lt
       have hz3 := hz2.set ra
       have hz4 := (hz1.setCell (p := ⟨X14, 0, none⟩) LX14.out (.int .i64 ra.err)).setCell (p := ⟨X14, 1, none⟩) LX14.out (.int .i64 ra.ver)
       refine wpAnyD_one (i := 10) (by kernel_rfl) rfl (by kernel_rfl) (fun K hK => ?_)
       simp only [List.getElem_toArray, List.getElem_cons_succ, List.getElem_cons_zero]
       go_simp
       refine hK.out _ _ (fun h => (by cases h)) (fun hS0' => ?_)
       clear hK hS0' x0 x1 g0 g1 xl hz1 hz2
       refine wpAnyD_done (by kernel_rfl) ?_ _
       generalize (y5.setCell ⟨X14, 0, none⟩ (.int .i64 ra.err)).setCell ⟨X14, 1, none⟩ (.int .i64 ra.ver) = y6 at *
       replace HS := Lib.hid (HS.out.below hz4)
       obtain ⟨x0, x1, g0, g1⟩ := hz3.facts
       have xl := hz3.lt
       clear hz4 hz3 g0 g1 x1
       by_cases hki : Kn ≤ j
       ·obtain rfl : ok = true := by rw [← HOK.out]; exact decide_eq_true hki
        have hk1 : (Kn : Int) ≤ (j : Int) := by omega
        have hk2 : ¬ (j : Int) < (Kn : Int) := by omega
        have hke : (ra.err == 12) = false := by
         rw [beq_eq_false_iff_ne]
         intro h
         have := HAI.out.1 h
         omega
        clear hki HOK HAI
        go_wp2_with fail
        go_roundw
        case rel => exact ⟨j + 1, by go_num, by omega, by omega, HS⟩
        case measure => simp [intOf]; omega
       ·obtain rfl : ok = false := by rw [← HOK.out]; exact decide_eq_false hki
        have hk1 : ¬ (Kn : Int) ≤ (j : Int) := by omega
        have hk2 : (j : Int) < (Kn : Int) := by omega
        have hke : ra.err = 12 := HAI.out.2 (by omega)
        rw [hke] at x0
        clear hki HOK HAI
        go_wp2_with fail
        go_roundw
        case rel => exact ⟨j + 1, by go_num, by omega, by omega, HS⟩
        case measure => simp [intOf]; omega
     ·have hltz : ¬ (j : Int) ≤ (N : Int) := by omega
      clear hlt
      have HBL := Lib.hid HS.out.bl
      go_wp2_with fail
      go_ret
      exact ⟨rfl, HBL.out⟩
   case neg =>
    have hzb : ((LW : Int) == 0) = false := by rw [beq_eq_false_iff_ne]; omega
    simp only [hz, if_false] at HDZ
    have HDZ := Lib.hid HDZ
    clear hz
    go_wp2_with fail
    refine (HPZ.out _).mono ?_
    rintro _ w1 ⟨rfl, hb⟩
    replace HS := Lib.hid (HS.out.below hb)
    clear hb q0 q1 q2 q3 q4 q5 q6 q7 ql
    obtain ⟨q0, q1, q2, q3, q4, q5, q6, q7⟩ := HS.out.bc.cells
    have ql := HS.out.bc.lt
    go_wp2_with fail
    clear q0 q1 q2 q3 q4 q5 q6 q7 ql
    have hb : Below w1.heap.size w1 (w1.alloc (.cells #[.int .i64 1, .string ⟨#[122]⟩, .string ⟨#[118]⟩, .int .i64 0, .int .i64 0, .string ⟨#[]⟩, .int .i64 (4294967296 + ((N : Int) + 1)), .int .i64 (4294967296 + (M : Int))] 35)) := (Below.refl _ _).alloc (Nat.le_refl _) _
    replace HS := Lib.hid (HS.out.below hb)
    clear hb HPZ hM hw1 hw2
    have hM : min (LW : Int) ((N : Int) + 1) = (M : Int) := HMM.out
    generalize w1.alloc (.cells #[.int .i64 1, .string ⟨#[122]⟩, .string ⟨#[118]⟩, .int .i64 0, .int .i64 0, .string ⟨#[]⟩, .int .i64 (4294967296 + ((N : Int) + 1)), .int .i64 (4294967296 + (M : Int))] 35) = W1 at *
    generalize w1.heap.size = XD at *
    refine (HDZ.out _ _ _ HS.out).mono ?_
    rintro _ w2 ⟨a1, c1, b1, d1, rfl, ho, hm, hb⟩
    have HQ := Lib.hid (HS.out.store hb ho hm HSHE.out.1 HSHE.out.2.1 HSHE.out.2.2)
    unfold bstore at HQ
    have hB0 : BC w2 E s0 (.slice a s0.l.length c) (.slice b N d) := HS.out.bc.below hb
    clear HS ho hm hb HDZ
    obtain ⟨q0, q1, q2, q3, q4, q5, q6, q7⟩ := hB0.cells
    have ql := hB0.lt
    have f0 := hB0.free 0
    have f1 := hB0.free 1
    have f2 := hB0.free 2
    have f3 := hB0.free 3
    have f4 := hB0.free 4
    have f5 := hB0.free 5
    have f6 := hB0.free 6
    have f7 := hB0.free 7
    have hlE : sE.ms.length = N + 2 - Kn := HSN.out.2
    rw [hlE] at HQ ⊢
    clear hlE
    go_wp2_with fail
    clear q0 q1 q2 q3 q4 q5 q6 q7 ql f0 f1 f2 f3 f4 f5 f6 f7 hB0
    generalize (((((((w2.setCell ⟨E, 0, none⟩ (.int .i64 sE.seq)).setCell ⟨E, 1, none⟩ ((.slice a1 sE.l.length c1))).setCell ⟨E, 2, none⟩ ((.slice b1 (N + 2 - Kn) d1))).setCell ⟨E, 3, none⟩ (.int .i64 sE.l1)).setCell ⟨E, 4, none⟩ (.int .i64 sE.l2)).setCell ⟨E, 5, none⟩ (.int .i64 sE.l3)).setCell ⟨E, 6, none⟩ (.int .i64 sE.l4)).setCell ⟨E, 7, none⟩ (.int .i64 sE.l5) = W3 at *
    have HS := HQ
    clear HQ HMM hM hKx hw3 hw4
    go_loopw [10] (fun iv wr => ∃ i : Nat, iv = .int .i64 i ∧ 1 ≤ i ∧ i ≤ N + 1 ∧ Hid (SB w wr E sE (.slice a1 sE.l.length c1) (.slice b1 (N + 2 - Kn) d1))) (fun iv _ => N + 1 - (intOf iv).toNat)
    case atStart => exact ⟨1, rfl, by omega, by omega, HS⟩
    case round =>
     clear HS
     obtain ⟨j, rfl, hj1, hjN, HS⟩ := hrel
     by_cases hlt : j ≤ N
     ·have hltz : (j : Int) ≤ (N : Int) := by omega
      have hj20 : j ≤ 20 := by have := HN.out; omega
      have hwj : IntKind.i64.wrap (4294967296 + (j : Int)) = 4294967296 + (j : Int) := IntWalk.i64_in _ (by omega)
      have hwi : IntKind.i64.wrap ((j : Int) + 1) = (j : Int) + 1 := IntWalk.i64_in _ (by omega)
      have HPA := Lib.hid (lput_any ⟨#[107, 49]⟩ ⟨#[97, 103, 97, 105, 110]⟩ (j : Int) (by omega) (by omega))
      have HDA := fun u v W (h : SB w W E sE u v) => do_sb (dla j) h HWE.out (dla_may j hj1 hj20).2 (dla_may j hj1 hj20).1
      obtain ⟨s2, ra, hsa⟩ := pair_two (doB sE (dla j) true)
      have hag := HAG.out j hj1 hlt
      have htl := (HTL.out j hlt).1
      have hTT : (toldR sE.ms (4294967296 + (j : Int))).2 = decide (Kn ≤ j) := by rw [toldR_two]; exact htl
      rw [hsa] at HDA hag
      unfold DoAns bagg dagg dla at HDA
      dsimp only at HDA hag
      have HDA := Lib.hid HDA
      have HTO := fun u v W (h : BAt W sE u v) => told_p sE (4294967296 + (j : Int)) u v W h
      obtain ⟨te, hte⟩ : ∃ t, (toldR sE.ms (4294967296 + (j : Int))).1 = t := ⟨_, rfl⟩
      obtain ⟨ok, hok⟩ : ∃ b, decide (Kn ≤ j) = b := ⟨_, rfl⟩
      rw [hTT, hte, hok] at HTO
      have HOK := Lib.hid hok
      unfold bagg rtup at HTO
      have HTO := Lib.hid HTO
      have HAI := Lib.hid hag
      clear hag htl hTT hte hsa hok
      obtain ⟨q0, q1, q2, q3, q4, q5, q6, q7⟩ := HS.out.bc.cells
      have ql := HS.out.bc.lt
      go_wp2_with fail
      clear q0 q1 q2 q3 q4 q5 q6 q7 ql
      refine (HTO.out _ _ _ HS.out.at').mono ?_
      rintro _ x1 ⟨rfl, hb⟩
      replace HS := Lib.hid (HS.out.below hb)
      clear hb HTO
      go_wp2_with fail
      have hb : Below x1.heap.size x1 (x1.alloc (.cells #[.int .i64 te.err, .int .i64 te.ver] 30)) := (Below.refl _ _).alloc (Nat.le_refl _) _
      replace HS := Lib.hid (HS.out.below hb)
      clear hb
      generalize x1.alloc (.cells #[.int .i64 te.err, .int .i64 te.ver] 30) = W5 at *
      refine wp_region_D (S := fun L Y => L.getD 9 false = false → BC Y E sE (.slice a1 sE.l.length c1) (.slice b1 (N + 2 - Kn) d1)) (by kernel_rfl) (fun _ => HS.out.bc) (fun hS0 => ?_)
      change wpAnyD _ _ _ _ _ _ _ (World.drew W5)
      replace HS := Lib.hid (HS.out.below (Below.refl W5.heap.size W5).drew)
      generalize World.drew W5 = Wd at *
      refine wpAnyD_take (i := 0) (v := Value.agg #[.int .i64 sE.seq, .slice a1 sE.l.length c1, .slice b1 (N + 2 - Kn) d1, .int .i64 sE.l1, .int .i64 sE.l2, .int .i64 sE.l3, .int .i64 sE.l4, .int .i64 sE.l5]) rfl (by kernel_rfl) (by kernel_rfl) (by kernel_rfl) (by kernel_rfl) (fun _ _ _ h => h) (fun L w => by simp only [getD_set_ne false (by decide : (0 : Nat) ≠ 9)]) (by kernel_rfl) hS0 ⟨by rfl, fun L w' hL hD hS => ?_⟩ (fun hS0 => ?_)
      ·obtain ⟨q0, q1, q2, q3, q4, q5, q6, q7⟩ := (hS (blocked (j := 9) hD hL (by kernel_rfl))).cells
       refine .inl ?_
       go_simp
      simp only [List.getElem_toArray, List.getElem_cons_zero, Act.put, List.setIfInBounds_toArray, List.set_cons_zero, List.set_cons_succ]
      refine dk 1 (.int .i64 (j : Int)) rfl hS0 ?_ fun hS0 => ?_
      ·intro _; go_simp
      simp only [List.getElem_toArray, List.getElem_cons_succ, List.getElem_cons_zero, Act.put, List.setIfInBounds_toArray, List.set_cons_zero, List.set_cons_succ]
      obtain ⟨y0, hy0⟩ : ∃ y, y = Wd := ⟨_, rfl⟩
      have HY : Hid (Below Wd.heap.size Wd y0) := Lib.hid (by rw [hy0]; exact Below.refl _ _)
      rw [← hy0] at hS0 ⊢
      clear hy0
      refine wpAnyD_three (i := 2) (j := 7) (k := 8) (by kernel_rfl) rfl rfl rfl (by kernel_rfl) (fun K hK => ?A35) (fun K hK => ?A36) (fun K hK => ?A37)
      case' A37 =>
       simp only [List.getElem_toArray, List.getElem_cons_succ, List.getElem_cons_zero]
       go_simp
       obtain ⟨X14, y1, e1, e2, hb, hn⟩ := box_r y0
       rw [e1, e2]
       have LX14 := Lib.hid (e1 ▸ HY.out.size : Wd.heap.size ≤ X14)
       have H14 := Lib.hid hn
       clear hn e1 e2
       replace HY := Lib.hid (HY.out.trans (hb.mono HY.out.size))
       clear hb hS0
       refine hK.out _ _ (fun _ => (HS.out.below HY.out).bc) (fun hS0 => ?_)
       clear hK
       refine wpAnyD_two' (i := 2) (j := 7) (by kernel_rfl) rfl rfl (by kernel_rfl) (fun K hK => ?A38) (fun K hK => ?A39)
       case' A39 =>
        simp only [List.getElem_toArray, List.getElem_cons_succ, List.getElem_cons_zero]
        go_simp
        obtain ⟨X13, y2, e1, e2, hb, hn⟩ := box_s y1
        rw [e1, e2]
        have LX13 := Lib.hid (e1 ▸ HY.out.size : Wd.heap.size ≤ X13)
        have H13 := Lib.hid hn
        clear hn e1 e2
        replace H14 := Lib.hid (H14.out.below hb)
        replace HY := Lib.hid (HY.out.trans (hb.mono HY.out.size))
        clear hb hS0
        refine hK.out _ _ (fun _ => (HS.out.below HY.out).bc) (fun hS0 => ?_)
        clear hK
        refine wpAnyD_one (i := 2) (by kernel_rfl) rfl (by kernel_rfl) (fun K hK => ?_)
        simp only [List.getElem_toArray, List.getElem_cons_succ, List.getElem_cons_zero]
        go_simp
        refine (HPA.out _).mono ?_
        rintro _ y3 ⟨rfl, hb⟩
        replace H13 := Lib.hid (H13.out.below hb)
        replace H14 := Lib.hid (H14.out.below hb)
        replace HY := Lib.hid (HY.out.trans (hb.mono HY.out.size))
        clear hb hS0
        refine hK.out _ _ (fun _ => (HS.out.below HY.out).bc) (fun hS0 => ?_)
        clear hK
        refine wpAnyD_one (i := 3) (by kernel_rfl) rfl (by kernel_rfl) (fun K hK => ?_)
        simp only [List.getElem_toArray, List.getElem_cons_succ, List.getElem_cons_zero]
        go_simp
        refine (HDA.out _ _ _ (HS.out.below HY.out)).mono ?_
        rintro _ y4 ⟨a2, c2, b2, d2, rfl, ho, hm, hb⟩
        clear ho hm
        replace H13 := Lib.hid (H13.out.below hb)
        replace H14 := Lib.hid (H14.out.below hb)
        replace HY := Lib.hid (HY.out.trans (hb.mono HY.out.size))
        clear hb hS0
        refine hK.out _ _ (fun _ => (HS.out.below HY.out).bc) (fun hS0 => ?_)
        clear hK
        refine dk 4 (.tuple #[.agg #[.int .i64 s2.seq, .slice a2 s2.l.length c2, .slice b2 s2.ms.length d2, .int .i64 s2.l1, .int .i64 s2.l2, .int .i64 s2.l3, .int .i64 s2.l4, .int .i64 s2.l5], .agg #[.int .i64 ra.err, .int .i64 ra.ver]]) rfl hS0 ?_ fun hS0 => ?_
        ·intro _; go_simp
        refine dk 5 (.agg #[.int .i64 s2.seq, .slice a2 s2.l.length c2, .slice b2 s2.ms.length d2, .int .i64 s2.l1, .int .i64 s2.l2, .int .i64 s2.l3, .int .i64 s2.l4, .int .i64 s2.l5]) rfl hS0 ?_ fun hS0 => ?_
        ·intro _; go_simp
        refine dk 6 (.agg #[.int .i64 ra.err, .int .i64 ra.ver]) rfl hS0 ?_ fun hS0 => ?_
        ·intro _; go_simp
        simp only [List.getElem_toArray, List.getElem_cons_succ, List.getElem_cons_zero, Act.put, List.setIfInBounds_toArray, List.set_cons_zero, List.set_cons_succ]
       case' A38 =>
        simp only [List.getElem_toArray, List.getElem_cons_succ, List.getElem_cons_zero]
        go_simp
        refine (HPA.out _).mono ?_
        rintro _ y2 ⟨rfl, hb⟩
        replace H14 := Lib.hid (H14.out.below hb)
        replace HY := Lib.hid (HY.out.trans (hb.mono HY.out.size))
        clear hb hS0
        refine hK.out _ _ (fun _ => (HS.out.below HY.out).bc) (fun hS0 => ?_)
        clear hK
        refine wpAnyD_two' (i := 3) (j := 7) (by kernel_rfl) rfl rfl (by kernel_rfl) (fun K hK => ?A42) (fun K hK => ?A43)
        case' A43 =>
         simp only [List.getElem_toArray, List.getElem_cons_succ, List.getElem_cons_zero]
         go_simp
         obtain ⟨X13, y3, e1, e2, hb, hn⟩ := box_s y2
         rw [e1, e2]
         have LX13 := Lib.hid (e1 ▸ HY.out.size : Wd.heap.size ≤ X13)
         have H13 := Lib.hid hn
         clear hn e1 e2
         replace H14 := Lib.hid (H14.out.below hb)
         replace HY := Lib.hid (HY.out.trans (hb.mono HY.out.size))
         clear hb hS0
         refine hK.out _ _ (fun _ => (HS.out.below HY.out).bc) (fun hS0 => ?_)
         clear hK
         refine wpAnyD_one (i := 3) (by kernel_rfl) rfl (by kernel_rfl) (fun K hK => ?_)
         simp only [List.getElem_toArray, List.getElem_cons_succ, List.getElem_cons_zero]
         go_simp
         refine (HDA.out _ _ _ (HS.out.below HY.out)).mono ?_
         rintro _ y4 ⟨a2, c2, b2, d2, rfl, ho, hm, hb⟩
         clear ho hm
         replace H13 := Lib.hid (H13.out.below hb)
         replace H14 := Lib.hid (H14.out.below hb)
         replace HY := Lib.hid (HY.out.trans (hb.mono HY.out.size))
         clear hb hS0
         refine hK.out _ _ (fun _ => (HS.out.below HY.out).bc) (fun hS0 => ?_)
         clear hK
         refine dk 4 (.tuple #[.agg #[.int .i64 s2.seq, .slice a2 s2.l.length c2, .slice b2 s2.ms.length d2, .int .i64 s2.l1, .int .i64 s2.l2, .int .i64 s2.l3, .int .i64 s2.l4, .int .i64 s2.l5], .agg #[.int .i64 ra.err, .int .i64 ra.ver]]) rfl hS0 ?_ fun hS0 => ?_
         ·intro _; go_simp
         refine dk 5 (.agg #[.int .i64 s2.seq, .slice a2 s2.l.length c2, .slice b2 s2.ms.length d2, .int .i64 s2.l1, .int .i64 s2.l2, .int .i64 s2.l3, .int .i64 s2.l4, .int .i64 s2.l5]) rfl hS0 ?_ fun hS0 => ?_
         ·intro _; go_simp
         refine dk 6 (.agg #[.int .i64 ra.err, .int .i64 ra.ver]) rfl hS0 ?_ fun hS0 => ?_
         ·intro _; go_simp
         simp only [List.getElem_toArray, List.getElem_cons_succ, List.getElem_cons_zero, Act.put, List.setIfInBounds_toArray, List.set_cons_zero, List.set_cons_succ]
        case' A42 =>
         simp only [List.getElem_toArray, List.getElem_cons_succ, List.getElem_cons_zero]
         go_simp
         refine (HDA.out _ _ _ (HS.out.below HY.out)).mono ?_
         rintro _ y3 ⟨a2, c2, b2, d2, rfl, ho, hm, hb⟩
         clear ho hm
         replace H14 := Lib.hid (H14.out.below hb)
         replace HY := Lib.hid (HY.out.trans (hb.mono HY.out.size))
         clear hb hS0
         refine hK.out _ _ (fun _ => (HS.out.below HY.out).bc) (fun hS0 => ?_)
         clear hK
         refine dk 4 (.tuple #[.agg #[.int .i64 s2.seq, .slice a2 s2.l.length c2, .slice b2 s2.ms.length d2, .int .i64 s2.l1, .int .i64 s2.l2, .int .i64 s2.l3, .int .i64 s2.l4, .int .i64 s2.l5], .agg #[.int .i64 ra.err, .int .i64 ra.ver]]) rfl hS0 ?_ fun hS0 => ?_
         ·intro _; go_simp
         refine dk 5 (.agg #[.int .i64 s2.seq, .slice a2 s2.l.length c2, .slice b2 s2.ms.length d2, .int .i64 s2.l1, .int .i64 s2.l2, .int .i64 s2.l3, .int .i64 s2.l4, .int .i64 s2.l5]) rfl hS0 ?_ fun hS0 => ?_
         ·intro _; go_simp
         refine dk 6 (.agg #[.int .i64 ra.err, .int .i64 ra.ver]) rfl hS0 ?_ fun hS0 => ?_
         ·intro _; go_simp
         simp only [List.getElem_toArray, List.getElem_cons_succ, List.getElem_cons_zero, Act.put, List.setIfInBounds_toArray, List.set_cons_zero, List.set_cons_succ]
         refine wpAnyD_one (i := 7) (by kernel_rfl) rfl (by kernel_rfl) (fun K hK => ?_)
         simp only [List.getElem_toArray, List.getElem_cons_succ, List.getElem_cons_zero]
         go_simp
         obtain ⟨X13, y4, e1, e2, hb, hn⟩ := box_s y3
         rw [e1, e2]
         have LX13 := Lib.hid (e1 ▸ HY.out.size : Wd.heap.size ≤ X13)
         have H13 := Lib.hid hn
         clear hn e1 e2
         replace H14 := Lib.hid (H14.out.below hb)
         replace HY := Lib.hid (HY.out.trans (hb.mono HY.out.size))
         clear hb hS0
         refine hK.out _ _ (fun _ => (HS.out.below HY.out).bc) (fun hS0 => ?_)
         clear hK
      case' A36 =>
       simp only [List.getElem_toArray, List.getElem_cons_succ, List.getElem_cons_zero]
       go_simp
       obtain ⟨X13, y1, e1, e2, hb, hn⟩ := box_s y0
       rw [e1, e2]
       have LX13 := Lib.hid (e1 ▸ HY.out.size : Wd.heap.size ≤ X13)
       have H13 := Lib.hid hn
       clear hn e1 e2
       replace HY := Lib.hid (HY.out.trans (hb.mono HY.out.size))
       clear hb hS0
       refine hK.out _ _ (fun _ => (HS.out.below HY.out).bc) (fun hS0 => ?_)
       clear hK
       refine wpAnyD_two' (i := 2) (j := 8) (by kernel_rfl) rfl rfl (by kernel_rfl) (fun K hK => ?A46) (fun K hK => ?A47)
       case' A47 =>
        simp only [List.getElem_toArray, List.getElem_cons_succ, List.getElem_cons_zero]
        go_simp
        obtain ⟨X14, y2, e1, e2, hb, hn⟩ := box_r y1
        rw [e1, e2]
        have LX14 := Lib.hid (e1 ▸ HY.out.size : Wd.heap.size ≤ X14)
        have H14 := Lib.hid hn
        clear hn e1 e2
        replace H13 := Lib.hid (H13.out.below hb)
        replace HY := Lib.hid (HY.out.trans (hb.mono HY.out.size))
        clear hb hS0
        refine hK.out _ _ (fun _ => (HS.out.below HY.out).bc) (fun hS0 => ?_)
        clear hK
        refine wpAnyD_one (i := 2) (by kernel_rfl) rfl (by kernel_rfl) (fun K hK => ?_)
        simp only [List.getElem_toArray, List.getElem_cons_succ, List.getElem_cons_zero]
        go_simp
        refine (HPA.out _).mono ?_
        rintro _ y3 ⟨rfl, hb⟩
        replace H13 := Lib.hid (H13.out.below hb)
        replace H14 := Lib.hid (H14.out.below hb)
        replace HY := Lib.hid (HY.out.trans (hb.mono HY.out.size))
        clear hb hS0
        refine hK.out _ _ (fun _ => (HS.out.below HY.out).bc) (fun hS0 => ?_)
        clear hK
        refine wpAnyD_one (i := 3) (by kernel_rfl) rfl (by kernel_rfl) (fun K hK => ?_)
        simp only [List.getElem_toArray, List.getElem_cons_succ, List.getElem_cons_zero]
        go_simp
        refine (HDA.out _ _ _ (HS.out.below HY.out)).mono ?_
        rintro _ y4 ⟨a2, c2, b2, d2, rfl, ho, hm, hb⟩
        clear ho hm
        replace H13 := Lib.hid (H13.out.below hb)
        replace H14 := Lib.hid (H14.out.below hb)
        replace HY := Lib.hid (HY.out.trans (hb.mono HY.out.size))
        clear hb hS0
        refine hK.out _ _ (fun _ => (HS.out.below HY.out).bc) (fun hS0 => ?_)
        clear hK
        refine dk 4 (.tuple #[.agg #[.int .i64 s2.seq, .slice a2 s2.l.length c2, .slice b2 s2.ms.length d2, .int .i64 s2.l1, .int .i64 s2.l2, .int .i64 s2.l3, .int .i64 s2.l4, .int .i64 s2.l5], .agg #[.int .i64 ra.err, .int .i64 ra.ver]]) rfl hS0 ?_ fun hS0 => ?_
        ·intro _; go_simp
        refine dk 5 (.agg #[.int .i64 s2.seq, .slice a2 s2.l.length c2, .slice b2 s2.ms.length d2, .int .i64 s2.l1, .int .i64 s2.l2, .int .i64 s2.l3, .int .i64 s2.l4, .int .i64 s2.l5]) rfl hS0 ?_ fun hS0 => ?_
        ·intro _; go_simp
        refine dk 6 (.agg #[.int .i64 ra.err, .int .i64 ra.ver]) rfl hS0 ?_ fun hS0 => ?_
        ·intro _; go_simp
        simp only [List.getElem_toArray, List.getElem_cons_succ, List.getElem_cons_zero, Act.put, List.setIfInBounds_toArray, List.set_cons_zero, List.set_cons_succ]
       case' A46 =>
        simp only [List.getElem_toArray, List.getElem_cons_succ, List.getElem_cons_zero]
        go_simp
        refine (HPA.out _).mono ?_
        rintro _ y2 ⟨rfl, hb⟩
        replace H13 := Lib.hid (H13.out.below hb)
        replace HY := Lib.hid (HY.out.trans (hb.mono HY.out.size))
        clear hb hS0
        refine hK.out _ _ (fun _ => (HS.out.below HY.out).bc) (fun hS0 => ?_)
        clear hK
        refine wpAnyD_two' (i := 3) (j := 8) (by kernel_rfl) rfl rfl (by kernel_rfl) (fun K hK => ?A50) (fun K hK => ?A51)
        case' A51 =>
         simp only [List.getElem_toArray, List.getElem_cons_succ, List.getElem_cons_zero]
         go_simp
         obtain ⟨X14, y3, e1, e2, hb, hn⟩ := box_r y2
         rw [e1, e2]
         have LX14 := Lib.hid (e1 ▸ HY.out.size : Wd.heap.size ≤ X14)
         have H14 := Lib.hid hn
         clear hn e1 e2
         replace H13 := Lib.hid (H13.out.below hb)
         replace HY := Lib.hid (HY.out.trans (hb.mono HY.out.size))
         clear hb hS0
         refine hK.out _ _ (fun _ => (HS.out.below HY.out).bc) (fun hS0 => ?_)
         clear hK
         refine wpAnyD_one (i := 3) (by kernel_rfl) rfl (by kernel_rfl) (fun K hK => ?_)
         simp only [List.getElem_toArray, List.getElem_cons_succ, List.getElem_cons_zero]
         go_simp
         refine (HDA.out _ _ _ (HS.out.below HY.out)).mono ?_
         rintro _ y4 ⟨a2, c2, b2, d2, rfl, ho, hm, hb⟩
         clear ho hm
         replace H13 := Lib.hid (H13.out.below hb)
         replace H14 := Lib.hid (H14.out.below hb)
         replace HY := Lib.hid (HY.out.trans (hb.mono HY.out.size))
         clear hb hS0
         refine hK.out _ _ (fun _ => (HS.out.below HY.out).bc) (fun hS0 => ?_)
         clear hK
         refine dk 4 (.tuple #[.agg #[.int .i64 s2.seq, .slice a2 s2.l.length c2, .slice b2 s2.ms.length d2, .int .i64 s2.l1, .int .i64 s2.l2, .int .i64 s2.l3, .int .i64 s2.l4, .int .i64 s2.l5], .agg #[.int .i64 ra.err, .int .i64 ra.ver]]) rfl hS0 ?_ fun hS0 => ?_
         ·intro _; go_simp
         refine dk 5 (.agg #[.int .i64 s2.seq, .slice a2 s2.l.length c2, .slice b2 s2.ms.length d2, .int .i64 s2.l1, .int .i64 s2.l2, .int .i64 s2.l3, .int .i64 s2.l4, .int .i64 s2.l5]) rfl hS0 ?_ fun hS0 => ?_
         ·intro _; go_simp
         refine dk 6 (.agg #[.int .i64 ra.err, .int .i64 ra.ver]) rfl hS0 ?_ fun hS0 => ?_
         ·intro _; go_simp
         simp only [List.getElem_toArray, List.getElem_cons_succ, List.getElem_cons_zero, Act.put, List.setIfInBounds_toArray, List.set_cons_zero, List.set_cons_succ]
        case' A50 =>
         simp only [List.getElem_toArray, List.getElem_cons_succ, List.getElem_cons_zero]
         go_simp
         refine (HDA.out _ _ _ (HS.out.below HY.out)).mono ?_
         rintro _ y3 ⟨a2, c2, b2, d2, rfl, ho, hm, hb⟩
         clear ho hm
         replace H13 := Lib.hid (H13.out.below hb)
         replace HY := Lib.hid (HY.out.trans (hb.mono HY.out.size))
         clear hb hS0
         refine hK.out _ _ (fun _ => (HS.out.below HY.out).bc) (fun hS0 => ?_)
         clear hK
         refine dk 4 (.tuple #[.agg #[.int .i64 s2.seq, .slice a2 s2.l.length c2, .slice b2 s2.ms.length d2, .int .i64 s2.l1, .int .i64 s2.l2, .int .i64 s2.l3, .int .i64 s2.l4, .int .i64 s2.l5], .agg #[.int .i64 ra.err, .int .i64 ra.ver]]) rfl hS0 ?_ fun hS0 => ?_
         ·intro _; go_simp
         refine dk 5 (.agg #[.int .i64 s2.seq, .slice a2 s2.l.length c2, .slice b2 s2.ms.length d2, .int .i64 s2.l1, .int .i64 s2.l2, .int .i64 s2.l3, .int .i64 s2.l4, .int .i64 s2.l5]) rfl hS0 ?_ fun hS0 => ?_
         ·intro _; go_simp
         refine dk 6 (.agg #[.int .i64 ra.err, .int .i64 ra.ver]) rfl hS0 ?_ fun hS0 => ?_
         ·intro _; go_simp
         simp only [List.getElem_toArray, List.getElem_cons_succ, List.getElem_cons_zero, Act.put, List.setIfInBounds_toArray, List.set_cons_zero, List.set_cons_succ]
         refine wpAnyD_one (i := 8) (by kernel_rfl) rfl (by kernel_rfl) (fun K hK => ?_)
         simp only [List.getElem_toArray, List.getElem_cons_succ, List.getElem_cons_zero]
         go_simp
         obtain ⟨X14, y4, e1, e2, hb, hn⟩ := box_r y3
         rw [e1, e2]
         have LX14 := Lib.hid (e1 ▸ HY.out.size : Wd.heap.size ≤ X14)
         have H14 := Lib.hid hn
         clear hn e1 e2
         replace H13 := Lib.hid (H13.out.below hb)
         replace HY := Lib.hid (HY.out.trans (hb.mono HY.out.size))
         clear hb hS0
         refine hK.out _ _ (fun _ => (HS.out.below HY.out).bc) (fun hS0 => ?_)
         clear hK
      case' A35 =>
       simp only [List.getElem_toArray, List.getElem_cons_succ, List.getElem_cons_zero]
       go_simp
       refine (HPA.out _).mono ?_
       rintro _ y1 ⟨rfl, hb⟩
       replace HY := Lib.hid (HY.out.trans (hb.mono HY.out.size))
       clear hb hS0
       refine hK.out _ _ (fun _ => (HS.out.below HY.out).bc) (fun hS0 => ?_)
       clear hK
       refine wpAnyD_three (i := 3) (j := 7) (k := 8) (by kernel_rfl) rfl rfl rfl (by kernel_rfl) (fun K hK => ?A54) (fun K hK => ?A55) (fun K hK => ?A56)
       case' A56 =>
        simp only [List.getElem_toArray, List.getElem_cons_succ, List.getElem_cons_zero]
        go_simp
        obtain ⟨X14, y2, e1, e2, hb, hn⟩ := box_r y1
        rw [e1, e2]
        have LX14 := Lib.hid (e1 ▸ HY.out.size : Wd.heap.size ≤ X14)
        have H14 := Lib.hid hn
        clear hn e1 e2
        replace HY := Lib.hid (HY.out.trans (hb.mono HY.out.size))
        clear hb hS0
        refine hK.out _ _ (fun _ => (HS.out.below HY.out).bc) (fun hS0 => ?_)
        clear hK
        refine wpAnyD_two' (i := 3) (j := 7) (by kernel_rfl) rfl rfl (by kernel_rfl) (fun K hK => ?A57) (fun K hK => ?A58)
        case' A58 =>
         simp only [List.getElem_toArray, List.getElem_cons_succ, List.getElem_cons_zero]
         go_simp
         obtain ⟨X13, y3, e1, e2, hb, hn⟩ := box_s y2
         rw [e1, e2]
         have LX13 := Lib.hid (e1 ▸ HY.out.size : Wd.heap.size ≤ X13)
         have H13 := Lib.hid hn
         clear hn e1 e2
         replace H14 := Lib.hid (H14.out.below hb)
         replace HY := Lib.hid (HY.out.trans (hb.mono HY.out.size))
         clear hb hS0
         refine hK.out _ _ (fun _ => (HS.out.below HY.out).bc) (fun hS0 => ?_)
         clear hK
         refine wpAnyD_one (i := 3) (by kernel_rfl) rfl (by kernel_rfl) (fun K hK => ?_)
         simp only [List.getElem_toArray, List.getElem_cons_succ, List.getElem_cons_zero]
         go_simp
         refine (HDA.out _ _ _ (HS.out.below HY.out)).mono ?_
         rintro _ y4 ⟨a2, c2, b2, d2, rfl, ho, hm, hb⟩
         clear ho hm
         replace H13 := Lib.hid (H13.out.below hb)
         replace H14 := Lib.hid (H14.out.below hb)
         replace HY := Lib.hid (HY.out.trans (hb.mono HY.out.size))
         clear hb hS0
         refine hK.out _ _ (fun _ => (HS.out.below HY.out).bc) (fun hS0 => ?_)
         clear hK
         refine dk 4 (.tuple #[.agg #[.int .i64 s2.seq, .slice a2 s2.l.length c2, .slice b2 s2.ms.length d2, .int .i64 s2.l1, .int .i64 s2.l2, .int .i64 s2.l3, .int .i64 s2.l4, .int .i64 s2.l5], .agg #[.int .i64 ra.err, .int .i64 ra.ver]]) rfl hS0 ?_ fun hS0 => ?_
         ·intro _; go_simp
         refine dk 5 (.agg #[.int .i64 s2.seq, .slice a2 s2.l.length c2, .slice b2 s2.ms.length d2, .int .i64 s2.l1, .int .i64 s2.l2, .int .i64 s2.l3, .int .i64 s2.l4, .int .i64 s2.l5]) rfl hS0 ?_ fun hS0 => ?_
         ·intro _; go_simp
         refine dk 6 (.agg #[.int .i64 ra.err, .int .i64 ra.ver]) rfl hS0 ?_ fun hS0 => ?_
         ·intro _; go_simp
         simp only [List.getElem_toArray, List.getElem_cons_succ, List.getElem_cons_zero, Act.put, List.setIfInBounds_toArray, List.set_cons_zero, List.set_cons_succ]
        case' A57 =>
         simp only [List.getElem_toArray, List.getElem_cons_succ, List.getElem_cons_zero]
         go_simp
         refine (HDA.out _ _ _ (HS.out.below HY.out)).mono ?_
         rintro _ y3 ⟨a2, c2, b2, d2, rfl, ho, hm, hb⟩
         clear ho hm
         replace H14 := Lib.hid (H14.out.below hb)
         replace HY := Lib.hid (HY.out.trans (hb.mono HY.out.size))
         clear hb hS0
         refine hK.out _ _ (fun _ => (HS.out.below HY.out).bc) (fun hS0 => ?_)
         clear hK
         refine dk 4 (.tuple #[.agg #[.int .i64 s2.seq, .slice a2 s2.l.length c2, .slice b2 s2.ms.length d2, .int .i64 s2.l1, .int .i64 s2.l2, .int .i64 s2.l3, .int .i64 s2.l4, .int .i64 s2.l5], .agg #[.int .i64 ra.err, .int .i64 ra.ver]]) rfl hS0 ?_ fun hS0 => ?_
         ·intro _; go_simp
         refine dk 5 (.agg #[.int .i64 s2.seq, .slice a2 s2.l.length c2, .slice b2 s2.ms.length d2, .int .i64 s2.l1, .int .i64 s2.l2, .int .i64 s2.l3, .int .i64 s2.l4, .int .i64 s2.l5]) rfl hS0 ?_ fun hS0 => ?_
         ·intro _; go_simp
         refine dk 6 (.agg #[.int .i64 ra.err, .int .i64 ra.ver]) rfl hS0 ?_ fun hS0 => ?_
         ·intro _; go_simp
         simp only [List.getElem_toArray, List.getElem_cons_succ, List.getElem_cons_zero, Act.put, List.setIfInBounds_toArray, List.set_cons_zero, List.set_cons_succ]
         refine wpAnyD_one (i := 7) (by kernel_rfl) rfl (by kernel_rfl) (fun K hK => ?_)
         simp only [List.getElem_toArray, List.getElem_cons_succ, List.getElem_cons_zero]
         go_simp
         obtain ⟨X13, y4, e1, e2, hb, hn⟩ := box_s y3
         rw [e1, e2]
         have LX13 := Lib.hid (e1 ▸ HY.out.size : Wd.heap.size ≤ X13)
         have H13 := Lib.hid hn
         clear hn e1 e2
         replace H14 := Lib.hid (H14.out.below hb)
         replace HY := Lib.hid (HY.out.trans (hb.mono HY.out.size))
         clear hb hS0
         refine hK.out _ _ (fun _ => (HS.out.below HY.out).bc) (fun hS0 => ?_)
         clear hK
       case' A55 =>
        simp only [List.getElem_toArray, List.getElem_cons_succ, List.getElem_cons_zero]
        go_simp
        obtain ⟨X13, y2, e1, e2, hb, hn⟩ := box_s y1
        rw [e1, e2]
        have LX13 := Lib.hid (e1 ▸ HY.out.size : Wd.heap.size ≤ X13)
        have H13 := Lib.hid hn
        clear hn e1 e2
        replace HY := Lib.hid (HY.out.trans (hb.mono HY.out.size))
        clear hb hS0
        refine hK.out _ _ (fun _ => (HS.out.below HY.out).bc) (fun hS0 => ?_)
        clear hK
        refine wpAnyD_two' (i := 3) (j := 8) (by kernel_rfl) rfl rfl (by kernel_rfl) (fun K hK => ?A61) (fun K hK => ?A62)
        case' A62 =>
         simp only [List.getElem_toArray, List.getElem_cons_succ, List.getElem_cons_zero]
         go_simp
         obtain ⟨X14, y3, e1, e2, hb, hn⟩ := box_r y2
         rw [e1, e2]
         have LX14 := Lib.hid (e1 ▸ HY.out.size : Wd.heap.size ≤ X14)
         have H14 := Lib.hid hn
         clear hn e1 e2
         replace H13 := Lib.hid (H13.out.below hb)
         replace HY := Lib.hid (HY.out.trans (hb.mono HY.out.size))
         clear hb hS0
         refine hK.out _ _ (fun _ => (HS.out.below HY.out).bc) (fun hS0 => ?_)
         clear hK
         refine wpAnyD_one (i := 3) (by kernel_rfl) rfl (by kernel_rfl) (fun K hK => ?_)
         simp only [List.getElem_toArray, List.getElem_cons_succ, List.getElem_cons_zero]
         go_simp
         refine (HDA.out _ _ _ (HS.out.below HY.out)).mono ?_
         rintro _ y4 ⟨a2, c2, b2, d2, rfl, ho, hm, hb⟩
         clear ho hm
         replace H13 := Lib.hid (H13.out.below hb)
         replace H14 := Lib.hid (H14.out.below hb)
         replace HY := Lib.hid (HY.out.trans (hb.mono HY.out.size))
         clear hb hS0
         refine hK.out _ _ (fun _ => (HS.out.below HY.out).bc) (fun hS0 => ?_)
         clear hK
         refine dk 4 (.tuple #[.agg #[.int .i64 s2.seq, .slice a2 s2.l.length c2, .slice b2 s2.ms.length d2, .int .i64 s2.l1, .int .i64 s2.l2, .int .i64 s2.l3, .int .i64 s2.l4, .int .i64 s2.l5], .agg #[.int .i64 ra.err, .int .i64 ra.ver]]) rfl hS0 ?_ fun hS0 => ?_
         ·intro _; go_simp
         refine dk 5 (.agg #[.int .i64 s2.seq, .slice a2 s2.l.length c2, .slice b2 s2.ms.length d2, .int .i64 s2.l1, .int .i64 s2.l2, .int .i64 s2.l3, .int .i64 s2.l4, .int .i64 s2.l5]) rfl hS0 ?_ fun hS0 => ?_
         ·intro _; go_simp
         refine dk 6 (.agg #[.int .i64 ra.err, .int .i64 ra.ver]) rfl hS0 ?_ fun hS0 => ?_
         ·intro _; go_simp
         simp only [List.getElem_toArray, List.getElem_cons_succ, List.getElem_cons_zero, Act.put, List.setIfInBounds_toArray, List.set_cons_zero, List.set_cons_succ]
        case' A61 =>
         simp only [List.getElem_toArray, List.getElem_cons_succ, List.getElem_cons_zero]
         go_simp
         refine (HDA.out _ _ _ (HS.out.below HY.out)).mono ?_
         rintro _ y3 ⟨a2, c2, b2, d2, rfl, ho, hm, hb⟩
         clear ho hm
         replace H13 := Lib.hid (H13.out.below hb)
         replace HY := Lib.hid (HY.out.trans (hb.mono HY.out.size))
         clear hb hS0
         refine hK.out _ _ (fun _ => (HS.out.below HY.out).bc) (fun hS0 => ?_)
         clear hK
         refine dk 4 (.tuple #[.agg #[.int .i64 s2.seq, .slice a2 s2.l.length c2, .slice b2 s2.ms.length d2, .int .i64 s2.l1, .int .i64 s2.l2, .int .i64 s2.l3, .int .i64 s2.l4, .int .i64 s2.l5], .agg #[.int .i64 ra.err, .int .i64 ra.ver]]) rfl hS0 ?_ fun hS0 => ?_
         ·intro _; go_simp
         refine dk 5 (.agg #[.int .i64 s2.seq, .slice a2 s2.l.length c2, .slice b2 s2.ms.length d2, .int .i64 s2.l1, .int .i64 s2.l2, .int .i64 s2.l3, .int .i64 s2.l4, .int .i64 s2.l5]) rfl hS0 ?_ fun hS0 => ?_
         ·intro _; go_simp
         refine dk 6 (.agg #[.int .i64 ra.err, .int .i64 ra.ver]) rfl hS0 ?_ fun hS0 => ?_
         ·intro _; go_simp
         simp only [List.getElem_toArray, List.getElem_cons_succ, List.getElem_cons_zero, Act.put, List.setIfInBounds_toArray, List.set_cons_zero, List.set_cons_succ]
         refine wpAnyD_one (i := 8) (by kernel_rfl) rfl (by kernel_rfl) (fun K hK => ?_)
         simp only [List.getElem_toArray, List.getElem_cons_succ, List.getElem_cons_zero]
         go_simp
         obtain ⟨X14, y4, e1, e2, hb, hn⟩ := box_r y3
         rw [e1, e2]
         have LX14 := Lib.hid (e1 ▸ HY.out.size : Wd.heap.size ≤ X14)
         have H14 := Lib.hid hn
         clear hn e1 e2
         replace H13 := Lib.hid (H13.out.below hb)
         replace HY := Lib.hid (HY.out.trans (hb.mono HY.out.size))
         clear hb hS0
         refine hK.out _ _ (fun _ => (HS.out.below HY.out).bc) (fun hS0 => ?_)
         clear hK
       case' A54 =>
        simp only [List.getElem_toArray, List.getElem_cons_succ, List.getElem_cons_zero]
        go_simp
        refine (HDA.out _ _ _ (HS.out.below HY.out)).mono ?_
        rintro _ y2 ⟨a2, c2, b2, d2, rfl, ho, hm, hb⟩
        clear ho hm
        replace HY := Lib.hid (HY.out.trans (hb.mono HY.out.size))
        clear hb hS0
        refine hK.out _ _ (fun _ => (HS.out.below HY.out).bc) (fun hS0 => ?_)
        clear hK
        refine dk 4 (.tuple #[.agg #[.int .i64 s2.seq, .slice a2 s2.l.length c2, .slice b2 s2.ms.length d2, .int .i64 s2.l1, .int .i64 s2.l2, .int .i64 s2.l3, .int .i64 s2.l4, .int .i64 s2.l5], .agg #[.int .i64 ra.err, .int .i64 ra.ver]]) rfl hS0 ?_ fun hS0 => ?_
        ·intro _; go_simp
        refine dk 5 (.agg #[.int .i64 s2.seq, .slice a2 s2.l.length c2, .slice b2 s2.ms.length d2, .int .i64 s2.l1, .int .i64 s2.l2, .int .i64 s2.l3, .int .i64 s2.l4, .int .i64 s2.l5]) rfl hS0 ?_ fun hS0 => ?_
        ·intro _; go_simp
        refine dk 6 (.agg #[.int .i64 ra.err, .int .i64 ra.ver]) rfl hS0 ?_ fun hS0 => ?_
        ·intro _; go_simp
        simp only [List.getElem_toArray, List.getElem_cons_succ, List.getElem_cons_zero, Act.put, List.setIfInBounds_toArray, List.set_cons_zero, List.set_cons_succ]
        refine wpAnyD_two' (i := 7) (j := 8) (by kernel_rfl) rfl rfl (by kernel_rfl) (fun K hK => ?A65) (fun K hK => ?A66)
        case' A66 =>
         simp only [List.getElem_toArray, List.getElem_cons_succ, List.getElem_cons_zero]
         go_simp
         obtain ⟨X14, y3, e1, e2, hb, hn⟩ := box_r y2
         rw [e1, e2]
         have LX14 := Lib.hid (e1 ▸ HY.out.size : Wd.heap.size ≤ X14)
         have H14 := Lib.hid hn
         clear hn e1 e2
         replace HY := Lib.hid (HY.out.trans (hb.mono HY.out.size))
         clear hb hS0
         refine hK.out _ _ (fun _ => (HS.out.below HY.out).bc) (fun hS0 => ?_)
         clear hK
         refine wpAnyD_one (i := 7) (by kernel_rfl) rfl (by kernel_rfl) (fun K hK => ?_)
         simp only [List.getElem_toArray, List.getElem_cons_succ, List.getElem_cons_zero]
         go_simp
         obtain ⟨X13, y4, e1, e2, hb, hn⟩ := box_s y3
         rw [e1, e2]
         have LX13 := Lib.hid (e1 ▸ HY.out.size : Wd.heap.size ≤ X13)
         have H13 := Lib.hid hn
         clear hn e1 e2
         replace H14 := Lib.hid (H14.out.below hb)
         replace HY := Lib.hid (HY.out.trans (hb.mono HY.out.size))
         clear hb hS0
         refine hK.out _ _ (fun _ => (HS.out.below HY.out).bc) (fun hS0 => ?_)
         clear hK
        case' A65 =>
         simp only [List.getElem_toArray, List.getElem_cons_succ, List.getElem_cons_zero]
         go_simp
         obtain ⟨X13, y3, e1, e2, hb, hn⟩ := box_s y2
         rw [e1, e2]
         have LX13 := Lib.hid (e1 ▸ HY.out.size : Wd.heap.size ≤ X13)
         have H13 := Lib.hid hn
         clear hn e1 e2
         replace HY := Lib.hid (HY.out.trans (hb.mono HY.out.size))
         clear hb hS0
         refine hK.out _ _ (fun _ => (HS.out.below HY.out).bc) (fun hS0 => ?_)
         clear hK
         refine wpAnyD_one (i := 8) (by kernel_rfl) rfl (by kernel_rfl) (fun K hK => ?_)
         simp only [List.getElem_toArray, List.getElem_cons_succ, List.getElem_cons_zero]
         go_simp
         obtain ⟨X14, y4, e1, e2, hb, hn⟩ := box_r y3
         rw [e1, e2]
         have LX14 := Lib.hid (e1 ▸ HY.out.size : Wd.heap.size ≤ X14)
         have H14 := Lib.hid hn
         clear hn e1 e2
         replace H13 := Lib.hid (H13.out.below hb)
         replace HY := Lib.hid (HY.out.trans (hb.mono HY.out.size))
         clear hb hS0
         refine hK.out _ _ (fun _ => (HS.out.below HY.out).bc) (fun hS0 => ?_)
         clear hK
      all_goals
       have hxe : X14 ≠ X13 := rc_ne H14.out H13.out
       obtain ⟨q0, q1, q2, q3, q4, q5, q6, q7⟩ := H13.out.cells
       have ql := H13.out.lt
       have f0 := H13.out.free 0
       have f1 := H13.out.free 1
       have f2 := H13.out.free 2
       have f3 := H13.out.free 3
       have f4 := H13.out.free 4
       have f5 := H13.out.free 5
       have f6 := H13.out.free 6
       have f7 := H13.out.free 7
       have hz1 := bstore_below s2 (.slice a2 s2.l.length c2) (.slice b2 s2.ms.length d2) LX13.out HY.out
       have hz2 := (bstore_rc s2 (.slice a2 s2.l.length c2) (.slice b2 s2.ms.length d2) hxe).2 H14.out
       unfold bstore at hz1 hz2
       refine wpAnyD_one (i := 9) (by kernel_rfl) rfl (by kernel_rfl) (fun K hK => ?_)
       simp only [List.getElem_toArray, List.getElem_cons_succ, List.getElem_cons_zero]
       go_simp
       refine hK.out _ _ (fun h => (by cases h)) (fun hS0' => ?_)
       clear hK hS0 hS0' q0 q1 q2 q3 q4 q5 q6 q7 ql f0 f1 f2 f3 f4 f5 f6 f7 H13 H14 HY hxe
       generalize (((((((y4.setCell ⟨X13, 0, none⟩ (.int .i64 s2.seq)).setCell ⟨X13, 1, none⟩ (.slice a2 s2.l.length c2)).setCell ⟨X13, 2, none⟩ (.slice b2 s2.ms.length d2)).setCell ⟨X13, 3, none⟩ (.int .i64 s2.l1)).setCell ⟨X13, 4, none⟩ (.int .i64 s2.l2)).setCell ⟨X13, 5, none⟩ (.int .i64 s2.l3)).setCell ⟨X13, 6, none⟩ (.int .i64 s2.l4)).setCell ⟨X13, 7, none⟩ (.int .i64 s2.l5) = y5 at *
       obtain ⟨x0, x1, g0, g1⟩ := hz2.facts
       dsimp only at x0 x1
       have xl := hz2.lt
       have hz3 := hz2.set ra
       have hz4 := (hz1.setCell (p := ⟨X14, 0, none⟩) LX14.out (.int .i64 ra.err)).setCell (p := ⟨X14, 1, none⟩) LX14.out (.int .i64 ra.ver)
       refine wpAnyD_one (i := 10) (by kernel_rfl) rfl (by kernel_rfl) (fun K hK => ?_)
       simp only [List.getElem_toArray, List.getElem_cons_succ, List.getElem_cons_zero]
       go_simp
       refine hK.out _ _ (fun h => (by cases h)) (fun hS0' => ?_)
       clear hK hS0' x0 x1 g0 g1 xl hz1 hz2
       refine wpAnyD_done (by kernel_rfl) ?_ _
       generalize (y5.setCell ⟨X14, 0, none⟩ (.int .i64 ra.err)).setCell ⟨X14, 1, none⟩ (.int .i64 ra.ver) = y6 at *
       replace HS := Lib.hid (HS.out.below hz4)
       obtain ⟨x0, x1, g0, g1⟩ := hz3.facts
       have xl := hz3.lt
       clear hz4 hz3 g0 g1 x1
       by_cases hki : Kn ≤ j
       ·obtain rfl : ok = true := by rw [← HOK.out]; exact decide_eq_true hki
        have hk1 : (Kn : Int) ≤ (j : Int) := by omega
        have hk2 : ¬ (j : Int) < (Kn : Int) := by omega
        have hke : (ra.err == 12) = false := by
         rw [beq_eq_false_iff_ne]
         intro h
         have := HAI.out.1 h
         omega
        clear hki HOK HAI
        go_wp2_with fail
        go_roundw
        case rel => exact ⟨j + 1, by go_num, by omega, by omega, HS⟩
        case measure => simp [intOf]; omega
       ·obtain rfl : ok = false := by rw [← HOK.out]; exact decide_eq_false hki
        have hk1 : ¬ (Kn : Int) ≤ (j : Int) := by omega
        have hk2 : (j : Int) < (Kn : Int) := by omega
        have hke : ra.err = 12 := HAI.out.2 (by omega)
        rw [hke] at x0
        clear hki HOK HAI
        go_wp2_with fail
        go_roundw
        case rel => exact ⟨j + 1, by go_num, by omega, by omega, HS⟩
        case measure => simp [intOf]; omega
     ·have hltz : ¬ (j : Int) ≤ (N : Int) := by omega
      clear hlt
      have HBL := Lib.hid HS.out.bl
      go_wp2_with fail
      go_ret
      exact ⟨rfl, HBL.out⟩

end Go.Proofs.YtlpgphiccjkenaaGreatDoor
