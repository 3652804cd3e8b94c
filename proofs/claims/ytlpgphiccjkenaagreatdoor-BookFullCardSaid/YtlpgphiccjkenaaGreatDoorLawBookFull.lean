/-
 BookFull answers true.
-/
import Derived.Test.YtlpgphiccjkenaaGreatDoorTk
import Derived.Test.YtlpgphiccjkenaaGreatDoorM08
import Derived.Test.YtlpgphiccjkenaaGreatDoorM11
import Derived.Test.YtlpgphiccjkenaaGreatDoorM14
import Derived.Test.YtlpgphiccjkenaaGreatDoorM30
import Derived.Test.YtlpgphiccjkenaaGreatDoorLbfP
import Derived.Test.YtlpgphiccjkenaaGreatDoorDigits2
set_option maxRecDepth 100000
set_option maxHeartbeats 16000000
namespace Go.Proofs.YtlpgphiccjkenaaGreatDoor
open Go.RowKit

section
variable {P : Program} {ops : Array Oper} {Q : Exit → Act → World → Prop} {S : Array Bool → World → Prop}

theorem wpAnyD_two' {i j : Nat} {oi oj : Oper} {fuel : Nat} {listed : Array Bool} {a : Act} {w : World} (hr : Region.ready .any ops listed = [i, j]) (hoi : ops[i]? = some oi) (hoj : ops[j]? = some oj) (hg : noGuards ops = true)
  (hi : ∀ K : Act → World → Prop, Shut (∀ a w, S (listed.setIfInBounds i true) w → (S (listed.setIfInBounds i true) w → wpAnyD P ops Q S fuel (listed.setIfInBounds i true) a w) → K a w) → Oper.wp P oi a w K Q)
  (hj : ∀ K : Act → World → Prop, Shut (∀ a w, S (listed.setIfInBounds j true) w → (S (listed.setIfInBounds j true) w → wpAnyD P ops Q S fuel (listed.setIfInBounds j true) a w) → K a w) → Oper.wp P oj a w K Q) : wpAnyD P ops Q S (fuel + 1) listed a w := by
 refine ⟨fun h0 => (by rw [hr] at h0; cases h0), fun k hk => ?_⟩
 rw [hr] at hk
 rcases List.mem_cons.1 hk with rfl | hk
 ·unfold wpOp
  simp only [hoi, wanted_free (noGuards_spec hg _ oi hoi), if_true]
  exact .inl (hi _ (fun a w h1 h2 => ⟨h1, h2 h1⟩))
 ·obtain rfl := List.mem_singleton.1 hk
  unfold wpOp
  simp only [hoj, wanted_free (noGuards_spec hg _ oj hoj), if_true]
  exact .inl (hj _ (fun a w h1 h2 => ⟨h1, h2 h1⟩))

theorem wpAnyD_three {i j k : Nat} {oi oj ok : Oper} {fuel : Nat} {listed : Array Bool} {a : Act} {w : World} (hr : Region.ready .any ops listed = [i, j, k]) (hoi : ops[i]? = some oi) (hoj : ops[j]? = some oj) (hok : ops[k]? = some ok) (hg : noGuards ops = true)
  (hi : ∀ K : Act → World → Prop, Shut (∀ a w, S (listed.setIfInBounds i true) w → (S (listed.setIfInBounds i true) w → wpAnyD P ops Q S fuel (listed.setIfInBounds i true) a w) → K a w) → Oper.wp P oi a w K Q)
  (hj : ∀ K : Act → World → Prop, Shut (∀ a w, S (listed.setIfInBounds j true) w → (S (listed.setIfInBounds j true) w → wpAnyD P ops Q S fuel (listed.setIfInBounds j true) a w) → K a w) → Oper.wp P oj a w K Q)
  (hk : ∀ K : Act → World → Prop, Shut (∀ a w, S (listed.setIfInBounds k true) w → (S (listed.setIfInBounds k true) w → wpAnyD P ops Q S fuel (listed.setIfInBounds k true) a w) → K a w) → Oper.wp P ok a w K Q) : wpAnyD P ops Q S (fuel + 1) listed a w := by
 refine ⟨fun h0 => (by rw [hr] at h0; cases h0), fun m hm => ?_⟩
 rw [hr] at hm
 rcases List.mem_cons.1 hm with rfl | hm
 ·unfold wpOp
  simp only [hoi, wanted_free (noGuards_spec hg _ oi hoi), if_true]
  exact .inl (hi _ (fun a w h1 h2 => ⟨h1, h2 h1⟩))
 ·rcases List.mem_cons.1 hm with rfl | hm
  ·unfold wpOp
   simp only [hoj, wanted_free (noGuards_spec hg _ oj hoj), if_true]
   exact .inl (hj _ (fun a w h1 h2 => ⟨h1, h2 h1⟩))
  ·obtain rfl := List.mem_singleton.1 hm
   unfold wpOp
   simp only [hok, wanted_free (noGuards_spec hg _ ok hok), if_true]
   exact .inl (hk _ (fun a w h1 h2 => ⟨h1, h2 h1⟩))

end

theorem pair_two {α β : Type} (p : α × β) : ∃ a b, p = (a, b) := ⟨p.1, p.2, rfl⟩

theorem dk {P : Program} {ops : Array Oper} {Q : Exit → Act → World → Prop} {R : World → Prop} {j : Nat} {fuel : Nat} {listed : Array Bool} {a : Act} {w : World} {oi : Oper} (i : Nat) (v : Value) (hi : ops[i]? = some oi)
  (hS : listed.getD j false = false → R w) (hy : ∀ w, (execOp a.eval oi).run P w = .ok (.value v) w)
  (h : ((listed.setIfInBounds i true).getD j false = false → R w) → wpAnyD P ops Q (fun L Y => L.getD j false = false → R Y) fuel (listed.setIfInBounds i true) (a.put oi.dst v) w)
  (hs : Region.noSelect ops = true := by kernel_rfl) (hg : noGuards ops = true := by kernel_rfl) (hf : Region.free .any ops listed i = true := by kernel_rfl) (hr : (Region.ready .any ops listed).contains i = true := by kernel_rfl)
  (hQ : ∀ c a w, Q (.panic c) (a.put oi.dst v) w → Q (.panic c) a w := by exact fun _ _ _ h => h) (hij : i ≠ j := by decide) (hd : downB ops listed = true := by kernel_rfl) (hgd : oi.guard = none := by rfl) :
  wpAnyD P ops Q (fun L Y => L.getD j false = false → R Y) (fuel + 1) listed a w :=
 wpAnyD_take hi hs hg hf hr hQ (fun L w => by simp only [getD_set_ne false hij]) hd hS ⟨hgd, fun _ w' _ _ _ => .inl (hy w')⟩ h

theorem box_s (W : World) : ∃ X W', W.heap.size = X ∧ W.alloc (.cells #[.int .i64 0, .slice none 0 0, .slice none 0 0, .int .i64 0, .int .i64 0, .int .i64 0, .int .i64 0, .int .i64 0] 27) = W' ∧ Below W.heap.size W W' ∧ BC W' X Bk.zero (.slice none 0 0) (.slice none 0 0) := ⟨_, _, rfl, rfl, (Below.refl _ _).alloc (Nat.le_refl _) _, BC.new W Bk.zero _ _⟩

theorem box_r (W : World) : ∃ X W', W.heap.size = X ∧ W.alloc (.cells #[.int .i64 0, .int .i64 0] 30) = W' ∧ Below W.heap.size W W' ∧ RC W' X ⟨0, 0⟩ := ⟨_, _, rfl, rfl, (Below.refl _ _).alloc (Nat.le_refl _) _, RC.new W ⟨0, 0⟩⟩

theorem toldR_two (l : List Me) (n : Int) : (toldR l n).2 = (toldB l n).isSome := by
 unfold toldR
 cases toldB l n <;> rfl

theorem eown_off2 {W W' : World} {B X : Nat} {u : Value} {l : List En} {cur : Array Value} {T0 : TypeId} (he : EOwn W B u l) (hx : W.heap[X]? = some (.cells cur T0 (0, 0))) (h1 : T0 ≠ 45) (h2 : T0 ≠ 55) (k0 : ∀ i, i ≠ X → W'.heap[i]? = W.heap[i]?) : EOwn W' B u l := by
 have n2 : ∀ {T : TypeId} {z : Value} {B k n : Nat} {cs : List Value}, W.ownsRow B T k z n cs → T0 ≠ T → W'.ownsRow B T k z n cs := fun hr h2 => row_kept hr (fun g hg => k0 g (fun e => row_off hr hx h2 (by rw [hg, e])))
 obtain ⟨ps, hr, hf⟩ := he
 exact ⟨ps, n2 hr h1, hf.map (fun _ _ hz => n2 hz h2)⟩

theorem mown_off2 {W W' : World} {B X : Nat} {u : Value} {l : List Me} {cur : Array Value} {T0 : TypeId} (he : MOwn W B u l) (hx : W.heap[X]? = some (.cells cur T0 (0, 0))) (h1 : T0 ≠ 76) (k0 : ∀ i, i ≠ X → W'.heap[i]? = W.heap[i]?) : MOwn W' B u l :=
 row_kept he (fun g hg => k0 g (fun e => row_off he hx h1 (by rw [hg, e])))

theorem res_heap (W : World) (X : Nat) (a b : Int) {i : Nat} (hi : i ≠ X) : ((W.setCell ⟨X, 0, none⟩ (.int .i64 a)).setCell ⟨X, 1, none⟩ (.int .i64 b)).heap[i]? = W.heap[i]? := by
 rw [Below.heap_setCell _ _ _ _ (by simpa using hi), Below.heap_setCell _ _ _ _ (by simpa using hi)]

theorem b2i_t (w : World) : Calls Tryz.prog 10 #[.bool true] w fun e w' => e = .returned (.int .i64 1) ∧ Below w.heap.size w w' := by
 go_enter Tryz.func10, Tryz.ntmps10
 go_wp2_with fail
 go_ret
 exact ⟨rfl, Below.refl _ _⟩

theorem b2i_f (w : World) : Calls Tryz.prog 10 #[.bool false] w fun e w' => e = .returned (.int .i64 0) ∧ Below w.heap.size w w' := by
 go_enter Tryz.func10, Tryz.ntmps10
 go_wp2_with fail
 go_ret
 exact ⟨rfl, Below.refl _ _⟩

theorem bookFull_walk (k0 v0 : Int) (w : World) (hbg : Begun5True) (h : LibAt w) :
  Calls Tryz.prog 3 #[.int .i64 k0, .int .i64 v0] w fun e w' => e = .returned (.bool true) ∧ Below w.heap.size w w' := by
 have HB := Lib.hid (hbg w h)
 have HL := Lib.hid h
 clear hbg h
 go_enter Tryz.func3, Tryz.ntmps3
 go_wp2_with fail
 refine HB.out.mono ?_
 rintro _ w0 ⟨rfl, hb⟩
 have HS := Lib.hid (SB.new HL.out hb)
 have HBW := Lib.hid hb
 clear hb HB
 by_cases h1 : k0 < 0
 ·go_wp2_with fail
  go_ret
  exact ⟨rfl, HBW.out⟩
 by_cases h2 : 42 < k0
 ·go_wp2_with fail
  go_ret
  exact ⟨rfl, HBW.out⟩
 by_cases h3 : v0 < 0
 ·go_wp2_with fail
  go_ret
  exact ⟨rfl, HBW.out⟩
 by_cases h4 : 14 < v0
 ·go_wp2_with fail
  go_ret
  exact ⟨rfl, HBW.out⟩
 obtain ⟨K, rfl⟩ := Int.eq_ofNat_of_zero_le (show 0 ≤ k0 by omega)
 obtain ⟨V, rfl⟩ := Int.eq_ofNat_of_zero_le (show 0 ≤ v0 by omega)
 have HN := Lib.hid (And.intro (show K ≤ 42 by omega) (show V ≤ 14 by omega))
 go_wp2_with fail
 generalize w0.alloc (.cells #[.int .i64 0, .slice none 0 0, .slice none 0 0, .int .i64 0, .int .i64 0, .int .i64 0, .int .i64 0, .int .i64 0] 27) = W0 at *
 generalize w0.heap.size = E at *
 clear h1 h2 h3 h4 HBW
 rw [← bfV_zero] at HS
 go_loopw [7, 8] (fun nv iv wr => ∃ (i : Nat) (a : Option Addr) (c : Nat) (b : Option Addr) (d : Nat), nv = .int .i64 i ∧ iv = .int .i64 i ∧ i ≤ K ∧ Hid (SB w wr E (bfV i 0) (.slice a (bfV i 0).l.length c) (.slice b (bfV i 0).ms.length d))) (fun _ iv _ => K - (intOf iv).toNat)
 case atStart => exact ⟨0, none, 0, none, 0, rfl, rfl, by omega, HS⟩
 case round =>
  clear HS
  obtain ⟨i, a, c, b, d, rfl, rfl, hiN, HS⟩ := hrel
  by_cases hlt : i < K
  ·have hltz : (i : Int) < (K : Int) := by omega
   have hi6 : i < 42 := by have := HN.out; omega
   have hwi : IntKind.i64.wrap ((i : Int) + 1) = (i : Int) + 1 := IntWalk.i64_in _ (by omega)
   have hwb : IntKind.i64.wrap (4294967296 + ((i : Int) + 1)) = 4294967296 + ((i : Int) + 1) := IntWalk.i64_in _ (by omega)
   have RD := Lib.hid (rDigits (i : Int) (by omega) (by omega))
   have hds : (decS (i : Int)).size ≤ 21 := decS_size _ (by omega) (by omega)
   have hfk : fkey i = ⟨#[107]⟩ ++ decS (i : Int) := (fkey_eq i).symm
   obtain ⟨⟨r1, hr1⟩, hm1, hwf1, hwf0, hsh⟩ := bfK_step i hi6
   have HDA := fun u v W (h : SB w W E (bfV i 0) u v) => do_sb (dfk i) h hwf0 hwf1 hm1
   rw [hr1] at HDA
   have HSH := Lib.hid hsh
   have hdq : (4294967296 : Int) + ((i + 1 : Nat) : Int) = 4294967296 + ((i : Int) + 1) := by omega
   have hsz : 1 + (decS (i : Int)).size ≤ 9223372036854775807 := by omega
   obtain ⟨s1, hs1⟩ : ∃ s, bfV (i + 1) 0 = s := ⟨_, rfl⟩
   rw [hs1] at HDA HSH
   have HSE := Lib.hid hs1
   obtain ⟨er, her⟩ : ∃ e : Int, (if i < 40 then (0 : Int) else 5) = e := ⟨_, rfl⟩
   rw [her] at HDA
   have HER := Lib.hid her
   unfold dfk at HDA
   rw [hfk] at HDA
   simp only [hdq] at HDA
   unfold DoAns bagg dagg at HDA
   dsimp only at HDA
   have HDA := Lib.hid HDA
   clear hs1 hr1 hm1 hwf1 hwf0 hsh hfk her hdq
   generalize bfV i 0 = s0 at *
   generalize decS (i : Int) = D at *
   go_wp2_with fail
   refine wp_region_D (S := fun L Y => L.getD 15 false = false → BC Y E s0 (.slice a s0.l.length c) (.slice b s0.ms.length d)) (by kernel_rfl) (fun _ => HS.out.bc) (fun hS0 => ?_)
   change wpAnyD _ _ _ _ _ _ _ (World.drew wr)
   replace HS := Lib.hid (HS.out.below (Below.refl wr.heap.size wr).drew)
   generalize World.drew wr = Wd at *
   refine wpAnyD_take (i := 0) (v := Value.agg #[.int .i64 s0.seq, .slice a s0.l.length c, .slice b s0.ms.length d, .int .i64 s0.l1, .int .i64 s0.l2, .int .i64 s0.l3, .int .i64 s0.l4, .int .i64 s0.l5]) rfl (by kernel_rfl) (by kernel_rfl) (by kernel_rfl) (by kernel_rfl) (fun _ _ _ h => h) (fun L w => by simp only [getD_set_ne false (by decide : (0 : Nat) ≠ 15)]) (by kernel_rfl) hS0 ⟨by rfl, fun L w' hL hD hS => ?_⟩ (fun hS0 => ?_)
   ·obtain ⟨q0, q1, q2, q3, q4, q5, q6, q7⟩ := (hS (blocked (j := 15) hD hL (by kernel_rfl))).cells
    refine .inl ?_
    go_simp
   simp only [List.getElem_toArray, List.getElem_cons_zero, Act.put, List.setIfInBounds_toArray, List.set_cons_zero, List.set_cons_succ]
   refine dk 1 (.int .i64 (i : Int)) rfl hS0 ?_ fun hS0 => ?_
   ·intro _; go_simp
   refine dk 4 (.int .i64 ((i : Int) + 1)) rfl hS0 ?_ fun hS0 => ?_
   ·intro _; go_simp
   refine dk 5 (.int .i64 (4294967296 + ((i : Int) + 1))) rfl hS0 ?_ fun hS0 => ?_
   ·intro _; go_simp
   refine dk 6 (.int .i64 ((i : Int) + 1)) rfl hS0 ?_ fun hS0 => ?_
   ·intro _; go_simp
   refine dk 7 (.int .i64 (4294967296 + ((i : Int) + 1))) rfl hS0 ?_ fun hS0 => ?_
   ·intro _; go_simp
   simp only [List.getElem_toArray, List.getElem_cons_succ, List.getElem_cons_zero, Act.put, List.setIfInBounds_toArray, List.set_cons_zero, List.set_cons_succ]
   obtain ⟨y0, hy0⟩ : ∃ y, y = Wd := ⟨_, rfl⟩
   have HY : Hid (Below Wd.heap.size Wd y0) := Lib.hid (by rw [hy0]; exact Below.refl _ _)
   rw [← hy0] at hS0 ⊢
   clear hy0
   refine wpAnyD_three (i := 2) (j := 13) (k := 14) (by kernel_rfl) rfl rfl rfl (by kernel_rfl) (fun K hK => ?A1) (fun K hK => ?A2) (fun K hK => ?A3)
   case' A3 =>
    simp only [List.getElem_toArray, List.getElem_cons_succ, List.getElem_cons_zero]
    go_simp
    obtain ⟨X10, y1, e1, e2, hb, hn⟩ := box_r y0
    rw [e1, e2]
    have LX10 := Lib.hid (e1 ▸ HY.out.size : Wd.heap.size ≤ X10)
    have H10 := Lib.hid hn
    clear hn e1 e2
    replace HY := Lib.hid (HY.out.trans (hb.mono HY.out.size))
    clear hb hS0
    refine hK.out _ _ (fun _ => (HS.out.below HY.out).bc) (fun hS0 => ?_)
    clear hK
    refine wpAnyD_two' (i := 2) (j := 13) (by kernel_rfl) rfl rfl (by kernel_rfl) (fun K hK => ?A4) (fun K hK => ?A5)
    case' A5 =>
     simp only [List.getElem_toArray, List.getElem_cons_succ, List.getElem_cons_zero]
     go_simp
     obtain ⟨X9, y2, e1, e2, hb, hn⟩ := box_s y1
     rw [e1, e2]
     have LX9 := Lib.hid (e1 ▸ HY.out.size : Wd.heap.size ≤ X9)
     have H9 := Lib.hid hn
     clear hn e1 e2
     replace H10 := Lib.hid (H10.out.below hb)
     replace HY := Lib.hid (HY.out.trans (hb.mono HY.out.size))
     clear hb hS0
     refine hK.out _ _ (fun _ => (HS.out.below HY.out).bc) (fun hS0 => ?_)
     clear hK
     refine wpAnyD_one (i := 2) (by kernel_rfl) rfl (by kernel_rfl) (fun K hK => ?_)
     simp only [List.getElem_toArray, List.getElem_cons_succ, List.getElem_cons_zero]
     go_simp
     refine (RD.out _).mono ?_
     rintro _ y3 ⟨rfl, hb⟩
     replace H9 := Lib.hid (H9.out.below hb)
     replace H10 := Lib.hid (H10.out.below hb)
     replace HY := Lib.hid (HY.out.trans (hb.mono HY.out.size))
     clear hb hS0
     refine hK.out _ _ (fun _ => (HS.out.below HY.out).bc) (fun hS0 => ?_)
     clear hK
     refine dk 3 (.string (⟨#[107]⟩ ++ D)) rfl hS0 ?_ fun hS0 => ?_
     ·intro _; go_simp
     refine dk 8 (.agg #[.int .i64 1, .string (⟨#[107]⟩ ++ D), .string ⟨#[]⟩, .int .i64 0, .int .i64 0, .string ⟨#[]⟩, .int .i64 (4294967296 + ((i : Int) + 1)), .int .i64 (4294967296 + ((i : Int) + 1))]) rfl hS0 ?_ fun hS0 => ?_
     ·intro _; go_simp
     simp only [List.getElem_toArray, List.getElem_cons_succ, List.getElem_cons_zero, Act.put, List.setIfInBounds_toArray, List.set_cons_zero, List.set_cons_succ]
     refine wpAnyD_one (i := 9) (by kernel_rfl) rfl (by kernel_rfl) (fun K hK => ?_)
     simp only [List.getElem_toArray, List.getElem_cons_succ, List.getElem_cons_zero]
     go_simp
     refine (HDA.out _ _ _ (HS.out.below HY.out)).mono ?_
     rintro _ y4 ⟨a1, c1, b1, d1, rfl, ho, hm, hb⟩
     have HO := Lib.hid (ho.mono HY.out.size)
     have HM := Lib.hid (hm.mono HY.out.size)
     clear ho hm
     replace H9 := Lib.hid (H9.out.below hb)
     replace H10 := Lib.hid (H10.out.below hb)
     replace HY := Lib.hid (HY.out.trans (hb.mono HY.out.size))
     clear hb hS0
     refine hK.out _ _ (fun _ => (HS.out.below HY.out).bc) (fun hS0 => ?_)
     clear hK
     refine dk 10 (.tuple #[.agg #[.int .i64 s1.seq, .slice a1 s1.l.length c1, .slice b1 s1.ms.length d1, .int .i64 s1.l1, .int .i64 s1.l2, .int .i64 s1.l3, .int .i64 s1.l4, .int .i64 s1.l5], .agg #[.int .i64 er, .int .i64 r1]]) rfl hS0 ?_ fun hS0 => ?_
     ·intro _; go_simp
     refine dk 11 (.agg #[.int .i64 s1.seq, .slice a1 s1.l.length c1, .slice b1 s1.ms.length d1, .int .i64 s1.l1, .int .i64 s1.l2, .int .i64 s1.l3, .int .i64 s1.l4, .int .i64 s1.l5]) rfl hS0 ?_ fun hS0 => ?_
     ·intro _; go_simp
     refine dk 12 (.agg #[.int .i64 er, .int .i64 r1]) rfl hS0 ?_ fun hS0 => ?_
     ·intro _; go_simp
     simp only [List.getElem_toArray, List.getElem_cons_succ, List.getElem_cons_zero, Act.put, List.setIfInBounds_toArray, List.set_cons_zero, List.set_cons_succ]
    case' A4 =>
     simp only [List.getElem_toArray, List.getElem_cons_succ, List.getElem_cons_zero]
     go_simp
     refine (RD.out _).mono ?_
     rintro _ y2 ⟨rfl, hb⟩
     replace H10 := Lib.hid (H10.out.below hb)
     replace HY := Lib.hid (HY.out.trans (hb.mono HY.out.size))
     clear hb hS0
     refine hK.out _ _ (fun _ => (HS.out.below HY.out).bc) (fun hS0 => ?_)
     clear hK
     refine dk 3 (.string (⟨#[107]⟩ ++ D)) rfl hS0 ?_ fun hS0 => ?_
     ·intro _; go_simp
     refine dk 8 (.agg #[.int .i64 1, .string (⟨#[107]⟩ ++ D), .string ⟨#[]⟩, .int .i64 0, .int .i64 0, .string ⟨#[]⟩, .int .i64 (4294967296 + ((i : Int) + 1)), .int .i64 (4294967296 + ((i : Int) + 1))]) rfl hS0 ?_ fun hS0 => ?_
     ·intro _; go_simp
     simp only [List.getElem_toArray, List.getElem_cons_succ, List.getElem_cons_zero, Act.put, List.setIfInBounds_toArray, List.set_cons_zero, List.set_cons_succ]
     refine wpAnyD_two' (i := 9) (j := 13) (by kernel_rfl) rfl rfl (by kernel_rfl) (fun K hK => ?A8) (fun K hK => ?A9)
     case' A9 =>
      simp only [List.getElem_toArray, List.getElem_cons_succ, List.getElem_cons_zero]
      go_simp
      obtain ⟨X9, y3, e1, e2, hb, hn⟩ := box_s y2
      rw [e1, e2]
      have LX9 := Lib.hid (e1 ▸ HY.out.size : Wd.heap.size ≤ X9)
      have H9 := Lib.hid hn
      clear hn e1 e2
      replace H10 := Lib.hid (H10.out.below hb)
      replace HY := Lib.hid (HY.out.trans (hb.mono HY.out.size))
      clear hb hS0
      refine hK.out _ _ (fun _ => (HS.out.below HY.out).bc) (fun hS0 => ?_)
      clear hK
      refine wpAnyD_one (i := 9) (by kernel_rfl) rfl (by kernel_rfl) (fun K hK => ?_)
      simp only [List.getElem_toArray, List.getElem_cons_succ, List.getElem_cons_zero]
      go_simp
      refine (HDA.out _ _ _ (HS.out.below HY.out)).mono ?_
      rintro _ y4 ⟨a1, c1, b1, d1, rfl, ho, hm, hb⟩
      have HO := Lib.hid (ho.mono HY.out.size)
      have HM := Lib.hid (hm.mono HY.out.size)
      clear ho hm
      replace H9 := Lib.hid (H9.out.below hb)
      replace H10 := Lib.hid (H10.out.below hb)
      replace HY := Lib.hid (HY.out.trans (hb.mono HY.out.size))
      clear hb hS0
      refine hK.out _ _ (fun _ => (HS.out.below HY.out).bc) (fun hS0 => ?_)
      clear hK
      refine dk 10 (.tuple #[.agg #[.int .i64 s1.seq, .slice a1 s1.l.length c1, .slice b1 s1.ms.length d1, .int .i64 s1.l1, .int .i64 s1.l2, .int .i64 s1.l3, .int .i64 s1.l4, .int .i64 s1.l5], .agg #[.int .i64 er, .int .i64 r1]]) rfl hS0 ?_ fun hS0 => ?_
      ·intro _; go_simp
      refine dk 11 (.agg #[.int .i64 s1.seq, .slice a1 s1.l.length c1, .slice b1 s1.ms.length d1, .int .i64 s1.l1, .int .i64 s1.l2, .int .i64 s1.l3, .int .i64 s1.l4, .int .i64 s1.l5]) rfl hS0 ?_ fun hS0 => ?_
      ·intro _; go_simp
      refine dk 12 (.agg #[.int .i64 er, .int .i64 r1]) rfl hS0 ?_ fun hS0 => ?_
      ·intro _; go_simp
      simp only [List.getElem_toArray, List.getElem_cons_succ, List.getElem_cons_zero, Act.put, List.setIfInBounds_toArray, List.set_cons_zero, List.set_cons_succ]
     case' A8 =>
      simp only [List.getElem_toArray, List.getElem_cons_succ, List.getElem_cons_zero]
      go_simp
      refine (HDA.out _ _ _ (HS.out.below HY.out)).mono ?_
      rintro _ y3 ⟨a1, c1, b1, d1, rfl, ho, hm, hb⟩
      have HO := Lib.hid (ho.mono HY.out.size)
      have HM := Lib.hid (hm.mono HY.out.size)
      clear ho hm
      replace H10 := Lib.hid (H10.out.below hb)
      replace HY := Lib.hid (HY.out.trans (hb.mono HY.out.size))
      clear hb hS0
      refine hK.out _ _ (fun _ => (HS.out.below HY.out).bc) (fun hS0 => ?_)
      clear hK
      refine dk 10 (.tuple #[.agg #[.int .i64 s1.seq, .slice a1 s1.l.length c1, .slice b1 s1.ms.length d1, .int .i64 s1.l1, .int .i64 s1.l2, .int .i64 s1.l3, .int .i64 s1.l4, .int .i64 s1.l5], .agg #[.int .i64 er, .int .i64 r1]]) rfl hS0 ?_ fun hS0 => ?_
      ·intro _; go_simp
      refine dk 11 (.agg #[.int .i64 s1.seq, .slice a1 s1.l.length c1, .slice b1 s1.ms.length d1, .int .i64 s1.l1, .int .i64 s1.l2, .int .i64 s1.l3, .int .i64 s1.l4, .int .i64 s1.l5]) rfl hS0 ?_ fun hS0 => ?_
      ·intro _; go_simp
      refine dk 12 (.agg #[.int .i64 er, .int .i64 r1]) rfl hS0 ?_ fun hS0 => ?_
      ·intro _; go_simp
      simp only [List.getElem_toArray, List.getElem_cons_succ, List.getElem_cons_zero, Act.put, List.setIfInBounds_toArray, List.set_cons_zero, List.set_cons_succ]
      refine wpAnyD_one (i := 13) (by kernel_rfl) rfl (by kernel_rfl) (fun K hK => ?_)
      simp only [List.getElem_toArray, List.getElem_cons_succ, List.getElem_cons_zero]
      go_simp
      obtain ⟨X9, y4, e1, e2, hb, hn⟩ := box_s y3
      rw [e1, e2]
      have LX9 := Lib.hid (e1 ▸ HY.out.size : Wd.heap.size ≤ X9)
      have H9 := Lib.hid hn
      clear hn e1 e2
      replace H10 := Lib.hid (H10.out.below hb)
      replace HO := Lib.hid (HO.out.below hb)
      replace HM := Lib.hid (HM.out.below hb)
      replace HY := Lib.hid (HY.out.trans (hb.mono HY.out.size))
      clear hb hS0
      refine hK.out _ _ (fun _ => (HS.out.below HY.out).bc) (fun hS0 => ?_)
      clear hK
   case' A2 =>
    simp only [List.getElem_toArray, List.getElem_cons_succ, List.getElem_cons_zero]
    go_simp
    obtain ⟨X9, y1, e1, e2, hb, hn⟩ := box_s y0
    rw [e1, e2]
    have LX9 := Lib.hid (e1 ▸ HY.out.size : Wd.heap.size ≤ X9)
    have H9 := Lib.hid hn
    clear hn e1 e2
    replace HY := Lib.hid (HY.out.trans (hb.mono HY.out.size))
    clear hb hS0
    refine hK.out _ _ (fun _ => (HS.out.below HY.out).bc) (fun hS0 => ?_)
    clear hK
    refine wpAnyD_two' (i := 2) (j := 14) (by kernel_rfl) rfl rfl (by kernel_rfl) (fun K hK => ?A12) (fun K hK => ?A13)
    case' A13 =>
     simp only [List.getElem_toArray, List.getElem_cons_succ, List.getElem_cons_zero]
     go_simp
     obtain ⟨X10, y2, e1, e2, hb, hn⟩ := box_r y1
     rw [e1, e2]
     have LX10 := Lib.hid (e1 ▸ HY.out.size : Wd.heap.size ≤ X10)
     have H10 := Lib.hid hn
     clear hn e1 e2
     replace H9 := Lib.hid (H9.out.below hb)
     replace HY := Lib.hid (HY.out.trans (hb.mono HY.out.size))
     clear hb hS0
     refine hK.out _ _ (fun _ => (HS.out.below HY.out).bc) (fun hS0 => ?_)
     clear hK
     refine wpAnyD_one (i := 2) (by kernel_rfl) rfl (by kernel_rfl) (fun K hK => ?_)
     simp only [List.getElem_toArray, List.getElem_cons_succ, List.getElem_cons_zero]
     go_simp
     refine (RD.out _).mono ?_
     rintro _ y3 ⟨rfl, hb⟩
     replace H9 := Lib.hid (H9.out.below hb)
     replace H10 := Lib.hid (H10.out.below hb)
     replace HY := Lib.hid (HY.out.trans (hb.mono HY.out.size))
     clear hb hS0
     refine hK.out _ _ (fun _ => (HS.out.below HY.out).bc) (fun hS0 => ?_)
     clear hK
     refine dk 3 (.string (⟨#[107]⟩ ++ D)) rfl hS0 ?_ fun hS0 => ?_
     ·intro _; go_simp
     refine dk 8 (.agg #[.int .i64 1, .string (⟨#[107]⟩ ++ D), .string ⟨#[]⟩, .int .i64 0, .int .i64 0, .string ⟨#[]⟩, .int .i64 (4294967296 + ((i : Int) + 1)), .int .i64 (4294967296 + ((i : Int) + 1))]) rfl hS0 ?_ fun hS0 => ?_
     ·intro _; go_simp
     simp only [List.getElem_toArray, List.getElem_cons_succ, List.getElem_cons_zero, Act.put, List.setIfInBounds_toArray, List.set_cons_zero, List.set_cons_succ]
     refine wpAnyD_one (i := 9) (by kernel_rfl) rfl (by kernel_rfl) (fun K hK => ?_)
     simp only [List.getElem_toArray, List.getElem_cons_succ, List.getElem_cons_zero]
     go_simp
     refine (HDA.out _ _ _ (HS.out.below HY.out)).mono ?_
     rintro _ y4 ⟨a1, c1, b1, d1, rfl, ho, hm, hb⟩
     have HO := Lib.hid (ho.mono HY.out.size)
     have HM := Lib.hid (hm.mono HY.out.size)
     clear ho hm
     replace H9 := Lib.hid (H9.out.below hb)
     replace H10 := Lib.hid (H10.out.below hb)
     replace HY := Lib.hid (HY.out.trans (hb.mono HY.out.size))
     clear hb hS0
     refine hK.out _ _ (fun _ => (HS.out.below HY.out).bc) (fun hS0 => ?_)
     clear hK
     refine dk 10 (.tuple #[.agg #[.int .i64 s1.seq, .slice a1 s1.l.length c1, .slice b1 s1.ms.length d1, .int .i64 s1.l1, .int .i64 s1.l2, .int .i64 s1.l3, .int .i64 s1.l4, .int .i64 s1.l5], .agg #[.int .i64 er, .int .i64 r1]]) rfl hS0 ?_ fun hS0 => ?_
     ·intro _; go_simp
     refine dk 11 (.agg #[.int .i64 s1.seq, .slice a1 s1.l.length c1, .slice b1 s1.ms.length d1, .int .i64 s1.l1, .int .i64 s1.l2, .int .i64 s1.l3, .int .i64 s1.l4, .int .i64 s1.l5]) rfl hS0 ?_ fun hS0 => ?_
     ·intro _; go_simp
     refine dk 12 (.agg #[.int .i64 er, .int .i64 r1]) rfl hS0 ?_ fun hS0 => ?_
     ·intro _; go_simp
     simp only [List.getElem_toArray, List.getElem_cons_succ, List.getElem_cons_zero, Act.put, List.setIfInBounds_toArray, List.set_cons_zero, List.set_cons_succ]
    case' A12 =>
     simp only [List.getElem_toArray, List.getElem_cons_succ, List.getElem_cons_zero]
     go_simp
     refine (RD.out _).mono ?_
     rintro _ y2 ⟨rfl, hb⟩
     replace H9 := Lib.hid (H9.out.below hb)
     replace HY := Lib.hid (HY.out.trans (hb.mono HY.out.size))
     clear hb hS0
     refine hK.out _ _ (fun _ => (HS.out.below HY.out).bc) (fun hS0 => ?_)
     clear hK
     refine dk 3 (.string (⟨#[107]⟩ ++ D)) rfl hS0 ?_ fun hS0 => ?_
     ·intro _; go_simp
     refine dk 8 (.agg #[.int .i64 1, .string (⟨#[107]⟩ ++ D), .string ⟨#[]⟩, .int .i64 0, .int .i64 0, .string ⟨#[]⟩, .int .i64 (4294967296 + ((i : Int) + 1)), .int .i64 (4294967296 + ((i : Int) + 1))]) rfl hS0 ?_ fun hS0 => ?_
     ·intro _; go_simp
     simp only [List.getElem_toArray, List.getElem_cons_succ, List.getElem_cons_zero, Act.put, List.setIfInBounds_toArray, List.set_cons_zero, List.set_cons_succ]
     refine wpAnyD_two' (i := 9) (j := 14) (by kernel_rfl) rfl rfl (by kernel_rfl) (fun K hK => ?A16) (fun K hK => ?A17)
     case' A17 =>
      simp only [List.getElem_toArray, List.getElem_cons_succ, List.getElem_cons_zero]
      go_simp
      obtain ⟨X10, y3, e1, e2, hb, hn⟩ := box_r y2
      rw [e1, e2]
      have LX10 := Lib.hid (e1 ▸ HY.out.size : Wd.heap.size ≤ X10)
      have H10 := Lib.hid hn
      clear hn e1 e2
      replace H9 := Lib.hid (H9.out.below hb)
      replace HY := Lib.hid (HY.out.trans (hb.mono HY.out.size))
      clear hb hS0
      refine hK.out _ _ (fun _ => (HS.out.below HY.out).bc) (fun hS0 => ?_)
      clear hK
      refine wpAnyD_one (i := 9) (by kernel_rfl) rfl (by kernel_rfl) (fun K hK => ?_)
      simp only [List.getElem_toArray, List.getElem_cons_succ, List.getElem_cons_zero]
      go_simp
      refine (HDA.out _ _ _ (HS.out.below HY.out)).mono ?_
      rintro _ y4 ⟨a1, c1, b1, d1, rfl, ho, hm, hb⟩
      have HO := Lib.hid (ho.mono HY.out.size)
      have HM := Lib.hid (hm.mono HY.out.size)
      clear ho hm
      replace H9 := Lib.hid (H9.out.below hb)
      replace H10 := Lib.hid (H10.out.below hb)
      replace HY := Lib.hid (HY.out.trans (hb.mono HY.out.size))
      clear hb hS0
      refine hK.out _ _ (fun _ => (HS.out.below HY.out).bc) (fun hS0 => ?_)
      clear hK
      refine dk 10 (.tuple #[.agg #[.int .i64 s1.seq, .slice a1 s1.l.length c1, .slice b1 s1.ms.length d1, .int .i64 s1.l1, .int .i64 s1.l2, .int .i64 s1.l3, .int .i64 s1.l4, .int .i64 s1.l5], .agg #[.int .i64 er, .int .i64 r1]]) rfl hS0 ?_ fun hS0 => ?_
      ·intro _; go_simp
      refine dk 11 (.agg #[.int .i64 s1.seq, .slice a1 s1.l.length c1, .slice b1 s1.ms.length d1, .int .i64 s1.l1, .int .i64 s1.l2, .int .i64 s1.l3, .int .i64 s1.l4, .int .i64 s1.l5]) rfl hS0 ?_ fun hS0 => ?_
      ·intro _; go_simp
      refine dk 12 (.agg #[.int .i64 er, .int .i64 r1]) rfl hS0 ?_ fun hS0 => ?_
      ·intro _; go_simp
      simp only [List.getElem_toArray, List.getElem_cons_succ, List.getElem_cons_zero, Act.put, List.setIfInBounds_toArray, List.set_cons_zero, List.set_cons_succ]
     case' A16 =>
      simp only [List.getElem_toArray, List.getElem_cons_succ, List.getElem_cons_zero]
      go_simp
      refine (HDA.out _ _ _ (HS.out.below HY.out)).mono ?_
      rintro _ y3 ⟨a1, c1, b1, d1, rfl, ho, hm, hb⟩
      have HO := Lib.hid (ho.mono HY.out.size)
      have HM := Lib.hid (hm.mono HY.out.size)
      clear ho hm
      replace H9 := Lib.hid (H9.out.below hb)
      replace HY := Lib.hid (HY.out.trans (hb.mono HY.out.size))
      clear hb hS0
      refine hK.out _ _ (fun _ => (HS.out.below HY.out).bc) (fun hS0 => ?_)
      clear hK
      refine dk 10 (.tuple #[.agg #[.int .i64 s1.seq, .slice a1 s1.l.length c1, .slice b1 s1.ms.length d1, .int .i64 s1.l1, .int .i64 s1.l2, .int .i64 s1.l3, .int .i64 s1.l4, .int .i64 s1.l5], .agg #[.int .i64 er, .int .i64 r1]]) rfl hS0 ?_ fun hS0 => ?_
      ·intro _; go_simp
      refine dk 11 (.agg #[.int .i64 s1.seq, .slice a1 s1.l.length c1, .slice b1 s1.ms.length d1, .int .i64 s1.l1, .int .i64 s1.l2, .int .i64 s1.l3, .int .i64 s1.l4, .int .i64 s1.l5]) rfl hS0 ?_ fun hS0 => ?_
      ·intro _; go_simp
      refine dk 12 (.agg #[.int .i64 er, .int .i64 r1]) rfl hS0 ?_ fun hS0 => ?_
      ·intro _; go_simp
      simp only [List.getElem_toArray, List.getElem_cons_succ, List.getElem_cons_zero, Act.put, List.setIfInBounds_toArray, List.set_cons_zero, List.set_cons_succ]
      refine wpAnyD_one (i := 14) (by kernel_rfl) rfl (by kernel_rfl) (fun K hK => ?_)
      simp only [List.getElem_toArray, List.getElem_cons_succ, List.getElem_cons_zero]
      go_simp
      obtain ⟨X10, y4, e1, e2, hb, hn⟩ := box_r y3
      rw [e1, e2]
      have LX10 := Lib.hid (e1 ▸ HY.out.size : Wd.heap.size ≤ X10)
      have H10 := Lib.hid hn
      clear hn e1 e2
      replace H9 := Lib.hid (H9.out.below hb)
      replace HO := Lib.hid (HO.out.below hb)
      replace HM := Lib.hid (HM.out.below hb)
      replace HY := Lib.hid (HY.out.trans (hb.mono HY.out.size))
      clear hb hS0
      refine hK.out _ _ (fun _ => (HS.out.below HY.out).bc) (fun hS0 => ?_)
      clear hK
   case' A1 =>
    simp only [List.getElem_toArray, List.getElem_cons_succ, List.getElem_cons_zero]
    go_simp
    refine (RD.out _).mono ?_
    rintro _ y1 ⟨rfl, hb⟩
    replace HY := Lib.hid (HY.out.trans (hb.mono HY.out.size))
    clear hb hS0
    refine hK.out _ _ (fun _ => (HS.out.below HY.out).bc) (fun hS0 => ?_)
    clear hK
    refine dk 3 (.string (⟨#[107]⟩ ++ D)) rfl hS0 ?_ fun hS0 => ?_
    ·intro _; go_simp
    refine dk 8 (.agg #[.int .i64 1, .string (⟨#[107]⟩ ++ D), .string ⟨#[]⟩, .int .i64 0, .int .i64 0, .string ⟨#[]⟩, .int .i64 (4294967296 + ((i : Int) + 1)), .int .i64 (4294967296 + ((i : Int) + 1))]) rfl hS0 ?_ fun hS0 => ?_
    ·intro _; go_simp
    simp only [List.getElem_toArray, List.getElem_cons_succ, List.getElem_cons_zero, Act.put, List.setIfInBounds_toArray, List.set_cons_zero, List.set_cons_succ]
    refine wpAnyD_three (i := 9) (j := 13) (k := 14) (by kernel_rfl) rfl rfl rfl (by kernel_rfl) (fun K hK => ?A20) (fun K hK => ?A21) (fun K hK => ?A22)
    case' A22 =>
     simp only [List.getElem_toArray, List.getElem_cons_succ, List.getElem_cons_zero]
     go_simp
     obtain ⟨X10, y2, e1, e2, hb, hn⟩ := box_r y1
     rw [e1, e2]
     have LX10 := Lib.hid (e1 ▸ HY.out.size : Wd.heap.size ≤ X10)
     have H10 := Lib.hid hn
     clear hn e1 e2
     replace HY := Lib.hid (HY.out.trans (hb.mono HY.out.size))
     clear hb hS0
     refine hK.out _ _ (fun _ => (HS.out.below HY.out).bc) (fun hS0 => ?_)
     clear hK
     refine wpAnyD_two' (i := 9) (j := 13) (by kernel_rfl) rfl rfl (by kernel_rfl) (fun K hK => ?A23) (fun K hK => ?A24)
     case' A24 =>
      simp only [List.getElem_toArray, List.getElem_cons_succ, List.getElem_cons_zero]
      go_simp
      obtain ⟨X9, y3, e1, e2, hb, hn⟩ := box_s y2
      rw [e1, e2]
      have LX9 := Lib.hid (e1 ▸ HY.out.size : Wd.heap.size ≤ X9)
      have H9 := Lib.hid hn
      clear hn e1 e2
      replace H10 := Lib.hid (H10.out.below hb)
      replace HY := Lib.hid (HY.out.trans (hb.mono HY.out.size))
      clear hb hS0
      refine hK.out _ _ (fun _ => (HS.out.below HY.out).bc) (fun hS0 => ?_)
      clear hK
      refine wpAnyD_one (i := 9) (by kernel_rfl) rfl (by kernel_rfl) (fun K hK => ?_)
      simp only [List.getElem_toArray, List.getElem_cons_succ, List.getElem_cons_zero]
      go_simp
      refine (HDA.out _ _ _ (HS.out.below HY.out)).mono ?_
      rintro _ y4 ⟨a1, c1, b1, d1, rfl, ho, hm, hb⟩
      have HO := Lib.hid (ho.mono HY.out.size)
      have HM := Lib.hid (hm.mono HY.out.size)
      clear ho hm
      replace H9 := Lib.hid (H9.out.below hb)
      replace H10 := Lib.hid (H10.out.below hb)
      replace HY := Lib.hid (HY.out.trans (hb.mono HY.out.size))
      clear hb hS0
      refine hK.out _ _ (fun _ => (HS.out.below HY.out).bc) (fun hS0 => ?_)
      clear hK
      refine dk 10 (.tuple #[.agg #[.int .i64 s1.seq, .slice a1 s1.l.length c1, .slice b1 s1.ms.length d1, .int .i64 s1.l1, .int .i64 s1.l2, .int .i64 s1.l3, .int .i64 s1.l4, .int .i64 s1.l5], .agg #[.int .i64 er, .int .i64 r1]]) rfl hS0 ?_ fun hS0 => ?_
      ·intro _; go_simp
      refine dk 11 (.agg #[.int .i64 s1.seq, .slice a1 s1.l.length c1, .slice b1 s1.ms.length d1, .int .i64 s1.l1, .int .i64 s1.l2, .int .i64 s1.l3, .int .i64 s1.l4, .int .i64 s1.l5]) rfl hS0 ?_ fun hS0 => ?_
      ·intro _; go_simp
      refine dk 12 (.agg #[.int .i64 er, .int .i64 r1]) rfl hS0 ?_ fun hS0 => ?_
      ·intro _; go_simp
      simp only [List.getElem_toArray, List.getElem_cons_succ, List.getElem_cons_zero, Act.put, List.setIfInBounds_toArray, List.set_cons_zero, List.set_cons_succ]
     case' A23 =>
      simp only [List.getElem_toArray, List.getElem_cons_succ, List.getElem_cons_zero]
      go_simp
      refine (HDA.out _ _ _ (HS.out.below HY.out)).mono ?_
      rintro _ y3 ⟨a1, c1, b1, d1, rfl, ho, hm, hb⟩
      have HO := Lib.hid (ho.mono HY.out.size)
      have HM := Lib.hid (hm.mono HY.out.size)
      clear ho hm
      replace H10 := Lib.hid (H10.out.below hb)
      replace HY := Lib.hid (HY.out.trans (hb.mono HY.out.size))
      clear hb hS0
      refine hK.out _ _ (fun _ => (HS.out.below HY.out).bc) (fun hS0 => ?_)
      clear hK
      refine dk 10 (.tuple #[.agg #[.int .i64 s1.seq, .slice a1 s1.l.length c1, .slice b1 s1.ms.length d1, .int .i64 s1.l1, .int .i64 s1.l2, .int .i64 s1.l3, .int .i64 s1.l4, .int .i64 s1.l5], .agg #[.int .i64 er, .int .i64 r1]]) rfl hS0 ?_ fun hS0 => ?_
      ·intro _; go_simp
      refine dk 11 (.agg #[.int .i64 s1.seq, .slice a1 s1.l.length c1, .slice b1 s1.ms.length d1, .int .i64 s1.l1, .int .i64 s1.l2, .int .i64 s1.l3, .int .i64 s1.l4, .int .i64 s1.l5]) rfl hS0 ?_ fun hS0 => ?_
      ·intro _; go_simp
      refine dk 12 (.agg #[.int .i64 er, .int .i64 r1]) rfl hS0 ?_ fun hS0 => ?_
      ·intro _; go_simp
      simp only [List.getElem_toArray, List.getElem_cons_succ, List.getElem_cons_zero, Act.put, List.setIfInBounds_toArray, List.set_cons_zero, List.set_cons_succ]
      refine wpAnyD_one (i := 13) (by kernel_rfl) rfl (by kernel_rfl) (fun K hK => ?_)
      simp only [List.getElem_toArray, List.getElem_cons_succ, List.getElem_cons_zero]
      go_simp
      obtain ⟨X9, y4, e1, e2, hb, hn⟩ := box_s y3
      rw [e1, e2]
      have LX9 := Lib.hid (e1 ▸ HY.out.size : Wd.heap.size ≤ X9)
      have H9 := Lib.hid hn
      clear hn e1 e2
      replace H10 := Lib.hid (H10.out.below hb)
      replace HO := Lib.hid (HO.out.below hb)
      replace HM := Lib.hid (HM.out.below hb)
      replace HY := Lib.hid (HY.out.trans (hb.mono HY.out.size))
      clear hb hS0
      refine hK.out _ _ (fun _ => (HS.out.below HY.out).bc) (fun hS0 => ?_)
      clear hK
    case' A21 =>
     simp only [List.getElem_toArray, List.getElem_cons_succ, List.getElem_cons_zero]
     go_simp
     obtain ⟨X9, y2, e1, e2, hb, hn⟩ := box_s y1
     rw [e1, e2]
     have LX9 := Lib.hid (e1 ▸ HY.out.size : Wd.heap.size ≤ X9)
     have H9 := Lib.hid hn
     clear hn e1 e2
     replace HY := Lib.hid (HY.out.trans (hb.mono HY.out.size))
     clear hb hS0
     refine hK.out _ _ (fun _ => (HS.out.below HY.out).bc) (fun hS0 => ?_)
     clear hK
     refine wpAnyD_two' (i := 9) (j := 14) (by kernel_rfl) rfl rfl (by kernel_rfl) (fun K hK => ?A27) (fun K hK => ?A28)
     case' A28 =>
      simp only [List.getElem_toArray, List.getElem_cons_succ, List.getElem_cons_zero]
      go_simp
      obtain ⟨X10, y3, e1, e2, hb, hn⟩ := box_r y2
      rw [e1, e2]
      have LX10 := Lib.hid (e1 ▸ HY.out.size : Wd.heap.size ≤ X10)
      have H10 := Lib.hid hn
      clear hn e1 e2
      replace H9 := Lib.hid (H9.out.below hb)
      replace HY := Lib.hid (HY.out.trans (hb.mono HY.out.size))
      clear hb hS0
      refine hK.out _ _ (fun _ => (HS.out.below HY.out).bc) (fun hS0 => ?_)
      clear hK
      refine wpAnyD_one (i := 9) (by kernel_rfl) rfl (by kernel_rfl) (fun K hK => ?_)
      simp only [List.getElem_toArray, List.getElem_cons_succ, List.getElem_cons_zero]
      go_simp
      refine (HDA.out _ _ _ (HS.out.below HY.out)).mono ?_
      rintro _ y4 ⟨a1, c1, b1, d1, rfl, ho, hm, hb⟩
      have HO := Lib.hid (ho.mono HY.out.size)
      have HM := Lib.hid (hm.mono HY.out.size)
      clear ho hm
      replace H9 := Lib.hid (H9.out.below hb)
      replace H10 := Lib.hid (H10.out.below hb)
      replace HY := Lib.hid (HY.out.trans (hb.mono HY.out.size))
      clear hb hS0
      refine hK.out _ _ (fun _ => (HS.out.below HY.out).bc) (fun hS0 => ?_)
      clear hK
      refine dk 10 (.tuple #[.agg #[.int .i64 s1.seq, .slice a1 s1.l.length c1, .slice b1 s1.ms.length d1, .int .i64 s1.l1, .int .i64 s1.l2, .int .i64 s1.l3, .int .i64 s1.l4, .int .i64 s1.l5], .agg #[.int .i64 er, .int .i64 r1]]) rfl hS0 ?_ fun hS0 => ?_
      ·intro _; go_simp
      refine dk 11 (.agg #[.int .i64 s1.seq, .slice a1 s1.l.length c1, .slice b1 s1.ms.length d1, .int .i64 s1.l1, .int .i64 s1.l2, .int .i64 s1.l3, .int .i64 s1.l4, .int .i64 s1.l5]) rfl hS0 ?_ fun hS0 => ?_
      ·intro _; go_simp
      refine dk 12 (.agg #[.int .i64 er, .int .i64 r1]) rfl hS0 ?_ fun hS0 => ?_
      ·intro _; go_simp
      simp only [List.getElem_toArray, List.getElem_cons_succ, List.getElem_cons_zero, Act.put, List.setIfInBounds_toArray, List.set_cons_zero, List.set_cons_succ]
     case' A27 =>
      simp only [List.getElem_toArray, List.getElem_cons_succ, List.getElem_cons_zero]
      go_simp
      refine (HDA.out _ _ _ (HS.out.below HY.out)).mono ?_
      rintro _ y3 ⟨a1, c1, b1, d1, rfl, ho, hm, hb⟩
      have HO := Lib.hid (ho.mono HY.out.size)
      have HM := Lib.hid (hm.mono HY.out.size)
      clear ho hm
      replace H9 := Lib.hid (H9.out.below hb)
      replace HY := Lib.hid (HY.out.trans (hb.mono HY.out.size))
      clear hb hS0
      refine hK.out _ _ (fun _ => (HS.out.below HY.out).bc) (fun hS0 => ?_)
      clear hK
      refine dk 10 (.tuple #[.agg #[.int .i64 s1.seq, .slice a1 s1.l.length c1, .slice b1 s1.ms.length d1, .int .i64 s1.l1, .int .i64 s1.l2, .int .i64 s1.l3, .int .i64 s1.l4, .int .i64 s1.l5], .agg #[.int .i64 er, .int .i64 r1]]) rfl hS0 ?_ fun hS0 => ?_
      ·intro _; go_simp
      refine dk 11 (.agg #[.int .i64 s1.seq, .slice a1 s1.l.length c1, .slice b1 s1.ms.length d1, .int .i64 s1.l1, .int .i64 s1.l2, .int .i64 s1.l3, .int .i64 s1.l4, .int .i64 s1.l5]) rfl hS0 ?_ fun hS0 => ?_
      ·intro _; go_simp
      refine dk 12 (.agg #[.int .i64 er, .int .i64 r1]) rfl hS0 ?_ fun hS0 => ?_
      ·intro _; go_simp
      simp only [List.getElem_toArray, List.getElem_cons_succ, List.getElem_cons_zero, Act.put, List.setIfInBounds_toArray, List.set_cons_zero, List.set_cons_succ]
      refine wpAnyD_one (i := 14) (by kernel_rfl) rfl (by kernel_rfl) (fun K hK => ?_)
      simp only [List.getElem_toArray, List.getElem_cons_succ, List.getElem_cons_zero]
      go_simp
      obtain ⟨X10, y4, e1, e2, hb, hn⟩ := box_r y3
      rw [e1, e2]
      have LX10 := Lib.hid (e1 ▸ HY.out.size : Wd.heap.size ≤ X10)
      have H10 := Lib.hid hn
      clear hn e1 e2
      replace H9 := Lib.hid (H9.out.below hb)
      replace HO := Lib.hid (HO.out.below hb)
      replace HM := Lib.hid (HM.out.below hb)
      replace HY := Lib.hid (HY.out.trans (hb.mono HY.out.size))
      clear hb hS0
      refine hK.out _ _ (fun _ => (HS.out.below HY.out).bc) (fun hS0 => ?_)
      clear hK
    case' A20 =>
     simp only [List.getElem_toArray, List.getElem_cons_succ, List.getElem_cons_zero]
     go_simp
     refine (HDA.out _ _ _ (HS.out.below HY.out)).mono ?_
     rintro _ y2 ⟨a1, c1, b1, d1, rfl, ho, hm, hb⟩
     have HO := Lib.hid (ho.mono HY.out.size)
     have HM := Lib.hid (hm.mono HY.out.size)
     clear ho hm
     replace HY := Lib.hid (HY.out.trans (hb.mono HY.out.size))
     clear hb hS0
     refine hK.out _ _ (fun _ => (HS.out.below HY.out).bc) (fun hS0 => ?_)
     clear hK
     refine dk 10 (.tuple #[.agg #[.int .i64 s1.seq, .slice a1 s1.l.length c1, .slice b1 s1.ms.length d1, .int .i64 s1.l1, .int .i64 s1.l2, .int .i64 s1.l3, .int .i64 s1.l4, .int .i64 s1.l5], .agg #[.int .i64 er, .int .i64 r1]]) rfl hS0 ?_ fun hS0 => ?_
     ·intro _; go_simp
     refine dk 11 (.agg #[.int .i64 s1.seq, .slice a1 s1.l.length c1, .slice b1 s1.ms.length d1, .int .i64 s1.l1, .int .i64 s1.l2, .int .i64 s1.l3, .int .i64 s1.l4, .int .i64 s1.l5]) rfl hS0 ?_ fun hS0 => ?_
     ·intro _; go_simp
     refine dk 12 (.agg #[.int .i64 er, .int .i64 r1]) rfl hS0 ?_ fun hS0 => ?_
     ·intro _; go_simp
     simp only [List.getElem_toArray, List.getElem_cons_succ, List.getElem_cons_zero, Act.put, List.setIfInBounds_toArray, List.set_cons_zero, List.set_cons_succ]
     refine wpAnyD_two' (i := 13) (j := 14) (by kernel_rfl) rfl rfl (by kernel_rfl) (fun K hK => ?A31) (fun K hK => ?A32)
     case' A32 =>
      simp only [List.getElem_toArray, List.getElem_cons_succ, List.getElem_cons_zero]
      go_simp
      obtain ⟨X10, y3, e1, e2, hb, hn⟩ := box_r y2
      rw [e1, e2]
      have LX10 := Lib.hid (e1 ▸ HY.out.size : Wd.heap.size ≤ X10)
      have H10 := Lib.hid hn
      clear hn e1 e2
      replace HO := Lib.hid (HO.out.below hb)
      replace HM := Lib.hid (HM.out.below hb)
      replace HY := Lib.hid (HY.out.trans (hb.mono HY.out.size))
      clear hb hS0
      refine hK.out _ _ (fun _ => (HS.out.below HY.out).bc) (fun hS0 => ?_)
      clear hK
      refine wpAnyD_one (i := 13) (by kernel_rfl) rfl (by kernel_rfl) (fun K hK => ?_)
      simp only [List.getElem_toArray, List.getElem_cons_succ, List.getElem_cons_zero]
      go_simp
      obtain ⟨X9, y4, e1, e2, hb, hn⟩ := box_s y3
      rw [e1, e2]
      have LX9 := Lib.hid (e1 ▸ HY.out.size : Wd.heap.size ≤ X9)
      have H9 := Lib.hid hn
      clear hn e1 e2
      replace H10 := Lib.hid (H10.out.below hb)
      replace HO := Lib.hid (HO.out.below hb)
      replace HM := Lib.hid (HM.out.below hb)
      replace HY := Lib.hid (HY.out.trans (hb.mono HY.out.size))
      clear hb hS0
      refine hK.out _ _ (fun _ => (HS.out.below HY.out).bc) (fun hS0 => ?_)
      clear hK
     case' A31 =>
      simp only [List.getElem_toArray, List.getElem_cons_succ, List.getElem_cons_zero]
      go_simp
      obtain ⟨X9, y3, e1, e2, hb, hn⟩ := box_s y2
      rw [e1, e2]
      have LX9 := Lib.hid (e1 ▸ HY.out.size : Wd.heap.size ≤ X9)
      have H9 := Lib.hid hn
      clear hn e1 e2
      replace HO := Lib.hid (HO.out.below hb)
      replace HM := Lib.hid (HM.out.below hb)
      replace HY := Lib.hid (HY.out.trans (hb.mono HY.out.size))
      clear hb hS0
      refine hK.out _ _ (fun _ => (HS.out.below HY.out).bc) (fun hS0 => ?_)
      clear hK
      refine wpAnyD_one (i := 14) (by kernel_rfl) rfl (by kernel_rfl) (fun K hK => ?_)
      simp only [List.getElem_toArray, List.getElem_cons_succ, List.getElem_cons_zero]
      go_simp
      obtain ⟨X10, y4, e1, e2, hb, hn⟩ := box_r y3
      rw [e1, e2]
      have LX10 := Lib.hid (e1 ▸ HY.out.size : Wd.heap.size ≤ X10)
      have H10 := Lib.hid hn
      clear hn e1 e2
      replace H9 := Lib.hid (H9.out.below hb)
      replace HO := Lib.hid (HO.out.below hb)
      replace HM := Lib.hid (HM.out.below hb)
      replace HY := Lib.hid (HY.out.trans (hb.mono HY.out.size))
      clear hb hS0
      refine hK.out _ _ (fun _ => (HS.out.below HY.out).bc) (fun hS0 => ?_)
      clear hK
   all_goals
    have hxe : X10 ≠ X9 := rc_ne H10.out H9.out
    have hle : E < Wd.heap.size := HS.out.bc.lt
    have hx9 : X9 ≠ E := by have := LX9.out; omega
    have hx10 : X10 ≠ E := by have := LX10.out; omega
    have HX9 := Lib.hid hx9
    have HX10 := Lib.hid hx10
    have hxe' := Lib.hid hxe
    obtain ⟨q0, q1, q2, q3, q4, q5, q6, q7⟩ := H9.out.cells
    have ql := H9.out.lt
    have f0 := H9.out.free 0
    have f1 := H9.out.free 1
    have f2 := H9.out.free 2
    have f3 := H9.out.free 3
    have f4 := H9.out.free 4
    have f5 := H9.out.free 5
    have f6 := H9.out.free 6
    have f7 := H9.out.free 7
    have hz1 := bstore_below s1 (.slice a1 s1.l.length c1) (.slice b1 s1.ms.length d1) LX9.out HY.out
    have hz2 := (bstore_rc s1 (.slice a1 s1.l.length c1) (.slice b1 s1.ms.length d1) hxe).2 H10.out
    have hz3 : BC (bstore y4 X9 s1 (.slice a1 s1.l.length c1) (.slice b1 s1.ms.length d1)) X9 s1 (.slice a1 s1.l.length c1) (.slice b1 s1.ms.length d1) := H9.out.store
    have hz4 := eown_off2 HO.out H9.out (by decide) (by decide) (fun i hi => bstore_heap y4 X9 s1 (.slice a1 s1.l.length c1) (.slice b1 s1.ms.length d1) hi)
    have hz5 := mown_off2 HM.out H9.out (by decide) (fun i hi => bstore_heap y4 X9 s1 (.slice a1 s1.l.length c1) (.slice b1 s1.ms.length d1) hi)
    unfold bstore at hz1 hz2 hz3 hz4 hz5
    clear hxe hx9 hx10 hle
    refine wpAnyD_one (i := 15) (by kernel_rfl) rfl (by kernel_rfl) (fun K hK => ?_)
    simp only [List.getElem_toArray, List.getElem_cons_succ, List.getElem_cons_zero]
    go_simp
    refine hK.out _ _ (fun h => (by cases h)) (fun hS0' => ?_)
    clear hK hS0 hS0' q0 q1 q2 q3 q4 q5 q6 q7 ql f0 f1 f2 f3 f4 f5 f6 f7 H9 H10 HY HO HM
    generalize (((((((y4.setCell ⟨X9, 0, none⟩ (.int .i64 s1.seq)).setCell ⟨X9, 1, none⟩ (.slice a1 s1.l.length c1)).setCell ⟨X9, 2, none⟩ (.slice b1 s1.ms.length d1)).setCell ⟨X9, 3, none⟩ (.int .i64 s1.l1)).setCell ⟨X9, 4, none⟩ (.int .i64 s1.l2)).setCell ⟨X9, 5, none⟩ (.int .i64 s1.l3)).setCell ⟨X9, 6, none⟩ (.int .i64 s1.l4)).setCell ⟨X9, 7, none⟩ (.int .i64 s1.l5) = y5 at *
    obtain ⟨x0, x1, g0, g1⟩ := hz2.facts
    dsimp only at x0 x1
    have xl := hz2.lt
    have hw1 := (hz1.setCell (p := ⟨X10, 0, none⟩) LX10.out (.int .i64 er)).setCell (p := ⟨X10, 1, none⟩) LX10.out (.int .i64 r1)
    have hw2 := hz2.set ⟨er, r1⟩
    have hw3 : BC ((y5.setCell ⟨X10, 0, none⟩ (.int .i64 er)).setCell ⟨X10, 1, none⟩ (.int .i64 r1)) X9 s1 (.slice a1 s1.l.length c1) (.slice b1 s1.ms.length d1) := (res_heap _ _ _ _ (Ne.symm hxe'.out)).trans hz3
    have hw4 := eown_off2 hz4 hz2 (by decide) (by decide) (fun i hi => res_heap y5 X10 er r1 hi)
    have hw5 := mown_off2 hz5 hz2 (by decide) (fun i hi => res_heap y5 X10 er r1 hi)
    dsimp only at hw2
    refine wpAnyD_one (i := 16) (by kernel_rfl) rfl (by kernel_rfl) (fun K hK => ?_)
    simp only [List.getElem_toArray, List.getElem_cons_succ, List.getElem_cons_zero]
    go_simp
    refine hK.out _ _ (fun h => (by cases h)) (fun hS0' => ?_)
    clear hK hS0' x0 x1 g0 g1 xl hz1 hz2 hz3 hz4 hz5 hxe'
    refine wpAnyD_done (by kernel_rfl) ?_ _
    generalize (y5.setCell ⟨X10, 0, none⟩ (.int .i64 er)).setCell ⟨X10, 1, none⟩ (.int .i64 r1) = y6 at *
    have HQ := Lib.hid (HS.out.store hw1 hw4 hw5 HSH.out.1 HSH.out.2.1 HSH.out.2.2)
    unfold bstore at HQ
    have hB0 := HS.out.bc.below hw1
    obtain ⟨p0, p1, p2, p3, p4, p5, p6, p7⟩ := hw3.cells
    have pl := hw3.lt
    obtain ⟨q0, q1, q2, q3, q4, q5, q6, q7⟩ := hB0.cells
    have ql := hB0.lt
    have f0 := hB0.free 0
    have f1 := hB0.free 1
    have f2 := hB0.free 2
    have f3 := hB0.free 3
    have f4 := hB0.free 4
    have f5 := hB0.free 5
    have f6 := hB0.free 6
    have f7 := hB0.free 7
    obtain ⟨x0, x1, g0, g1⟩ := hw2.facts
    have xl := hw2.lt
    have hx9 := HX9.out
    have hx10 := HX10.out
    dsimp only at x0 x1
    clear hw1 hw2 hw3 hw4 hw5 hB0 HX9 HX10 g0 g1
    by_cases h40 : i < 40
    ·obtain rfl : er = 0 := by rw [← HER.out, if_pos h40]
     have h40z : (i : Int) < 40 := by omega
     have h40y : ¬ (40 : Int) ≤ (i : Int) := by omega
     clear h40 HSH HDA RD HER HL HN
     go_wp2_with fail
     clear p0 p1 p2 p3 p4 p5 p6 p7 pl q0 q1 q2 q3 q4 q5 q6 q7 ql f0 f1 f2 f3 f4 f5 f6 f7 x0 x1 xl
     go_roundw
     case rel => exact ⟨i + 1, a1, c1, b1, d1, by go_num, by go_num, by omega, Lib.hid (by rw [HSE.out]; exact HQ.out)⟩
     case measure => simp [intOf]; omega
    ·obtain rfl : er = 5 := by rw [← HER.out, if_neg h40]
     have h40z : ¬ (i : Int) < 40 := by omega
     have h40y : (40 : Int) ≤ (i : Int) := by omega
     clear h40 HSH HDA RD HER HL HN
     go_wp2_with fail
     clear p0 p1 p2 p3 p4 p5 p6 p7 pl q0 q1 q2 q3 q4 q5 q6 q7 ql f0 f1 f2 f3 f4 f5 f6 f7 x0 x1 xl
     go_roundw
     case rel => exact ⟨i + 1, a1, c1, b1, d1, by go_num, by go_num, by omega, Lib.hid (by rw [HSE.out]; exact HQ.out)⟩
     case measure => simp [intOf]; omega
  ·have hltz : ¬ (i : Int) < (K : Int) := by omega
   obtain rfl : i = K := by omega
   clear hlt hiN
   go_wp2_with fail
   clear hltz
   go_loopw [7, 11] (fun nv iv wr => ∃ (v : Nat) (a : Option Addr) (c : Nat) (b : Option Addr) (d : Nat), nv = .int .i64 ((i + v : Nat) : Int) ∧ iv = .int .i64 v ∧ v ≤ V ∧ Hid (SB w wr E (bfV i v) (.slice a (bfV i v).l.length c) (.slice b (bfV i v).ms.length d))) (fun _ iv _ => V - (intOf iv).toNat)
   case atStart => exact ⟨0, a, c, b, d, rfl, rfl, by omega, HS⟩
   case round =>
    clear HS
    obtain ⟨v, a, c, b, d, rfl, rfl, hvN, HS⟩ := hrel
    by_cases hlt : v < V
    ·have hltz : (v : Int) < (V : Int) := by omega
     have hv14 : v < 14 := by have := HN.out; omega
     have hi42 : i ≤ 42 := HN.out.1
     obtain ⟨⟨r1, hr1⟩, hm1, hwf1, hwf0, hsh⟩ := bfV_step i v hi42 hv14
     have HDA := fun u z W (h : SB w W E (bfV i v) u z) => do_sb (dfv i v) h hwf0 hwf1 hm1
     rw [hr1] at HDA
     have HSH := Lib.hid hsh
     obtain ⟨T, hT⟩ : ∃ T, i + v = T := ⟨_, rfl⟩
     have hTn : ((i + (v + 1) : Nat) : Int) = (T : Int) + 1 := by omega
     have hwT : IntKind.i64.wrap ((T : Int) + 1) = (T : Int) + 1 := IntWalk.i64_in _ (by omega)
     have hwi : IntKind.i64.wrap ((v : Int) + 1) = (v : Int) + 1 := IntWalk.i64_in _ (by omega)
     have hwb : IntKind.i64.wrap (4294967296 + ((T : Int) + 1)) = 4294967296 + ((T : Int) + 1) := IntWalk.i64_in _ (by omega)
     have hdq : (4294967296 : Int) + ((i + v + 1 : Nat) : Int) = 4294967296 + ((T : Int) + 1) := by omega
     have hf0 : fkey 0 = ⟨#[107, 48]⟩ := by kernel_rfl
     obtain ⟨s1, hs1⟩ : ∃ s, bfV i (v + 1) = s := ⟨_, rfl⟩
     rw [hs1] at HDA HSH
     have HSE := Lib.hid hs1
     obtain ⟨er, her⟩ : ∃ e : Int, (if fok i v = true then (0 : Int) else 5) = e := ⟨_, rfl⟩
     rw [her] at HDA
     unfold fok at her
     have HER := Lib.hid her
     unfold dfv at HDA
     rw [hf0] at HDA
     simp only [hdq] at HDA
     unfold DoAns bagg dagg at HDA
     dsimp only at HDA
     have HDA := Lib.hid HDA
     have HTn := Lib.hid hTn
     clear hs1 hr1 hm1 hwf1 hwf0 hsh her hdq hf0 hTn hi42 hv14
     rw [hT]
     clear hT
     generalize bfV i v = s0 at *
     obtain ⟨q0, q1, q2, q3, q4, q5, q6, q7⟩ := HS.out.bc.cells
     have ql := HS.out.bc.lt
     go_wp2_with fail
     clear q0 q1 q2 q3 q4 q5 q6 q7 ql
     refine (HDA.out _ _ _ HS.out).mono ?_
     rintro _ y1 ⟨a1, c1, b1, d1, rfl, ho, hm, hb⟩
     have hq := HS.out.store hb ho hm HSH.out.1 HSH.out.2.1 HSH.out.2.2
     have HQ := Lib.hid (hq.below (two_boxes _ #[.int .i64 s1.seq, .slice a1 s1.l.length c1, .slice b1 s1.ms.length d1, .int .i64 s1.l1, .int .i64 s1.l2, .int .i64 s1.l3, .int .i64 s1.l4, .int .i64 s1.l5] #[.int .i64 er, .int .i64 r1] 27 30))
     unfold bstore at HQ
     have hB0 := HS.out.bc.below hb
     obtain ⟨q0, q1, q2, q3, q4, q5, q6, q7⟩ := hB0.cells
     have ql := hB0.lt
     have f0 := hB0.free 0
     have f1 := hB0.free 1
     have f2 := hB0.free 2
     have f3 := hB0.free 3
     have f4 := hB0.free 4
     have f5 := hB0.free 5
     have f6 := hB0.free 6
     have f7 := hB0.free 7
     clear ho hm hb hq hB0 HS HSH HDA HL
     rcases Nat.eq_zero_or_pos i with hi0 | hi0
     ·have hk1 : ¬ (0 : Int) < (i : Int) := by omega
      have hk2 : ((i : Int) == 0) = true := by rw [beq_iff_eq]; omega
      by_cases h12 : v < 12
      ·obtain rfl : er = 0 := by rw [← HER.out, if_pos hi0]; simp [h12]
       have h12z : (v : Int) < 12 := by omega
       clear HN HER h12 hi0
       go_wp2_with fail
       clear q0 q1 q2 q3 q4 q5 q6 q7 ql f0 f1 f2 f3 f4 f5 f6 f7
       go_roundw
       case rel => exact ⟨v + 1, a1, c1, b1, d1, by rw [HTn.out], by go_num, by omega, Lib.hid (by rw [HSE.out]; exact HQ.out)⟩
       case measure => simp [intOf]; omega
      ·obtain rfl : er = 5 := by rw [← HER.out, if_pos hi0]; simp [h12]
       have h12z : ¬ (v : Int) < 12 := by omega
       clear HN HER h12 hi0
       go_wp2_with fail
       clear q0 q1 q2 q3 q4 q5 q6 q7 ql f0 f1 f2 f3 f4 f5 f6 f7
       go_roundw
       case rel => exact ⟨v + 1, a1, c1, b1, d1, by rw [HTn.out], by go_num, by omega, Lib.hid (by rw [HSE.out]; exact HQ.out)⟩
       case measure => simp [intOf]; omega
     ·have hk1 : (0 : Int) < (i : Int) := by omega
      have hk2 : ((i : Int) == 0) = false := by rw [beq_eq_false_iff_ne]; omega
      by_cases h11 : v < 11
      ·obtain rfl : er = 0 := by rw [← HER.out, if_neg (show ¬ i = 0 by omega)]; simp [h11]
       have h11z : (v : Int) < 11 := by omega
       clear HN HER h11
       go_wp2_with fail
       clear q0 q1 q2 q3 q4 q5 q6 q7 ql f0 f1 f2 f3 f4 f5 f6 f7
       go_roundw
       case rel => exact ⟨v + 1, a1, c1, b1, d1, by rw [HTn.out], by go_num, by omega, Lib.hid (by rw [HSE.out]; exact HQ.out)⟩
       case measure => simp [intOf]; omega
      ·obtain rfl : er = 5 := by rw [← HER.out, if_neg (show ¬ i = 0 by omega)]; simp [h11]
       have h11z : ¬ (v : Int) < 11 := by omega
       clear HN HER h11
       go_wp2_with fail
       clear q0 q1 q2 q3 q4 q5 q6 q7 ql f0 f1 f2 f3 f4 f5 f6 f7
       go_roundw
       case rel => exact ⟨v + 1, a1, c1, b1, d1, by rw [HTn.out], by go_num, by omega, Lib.hid (by rw [HSE.out]; exact HQ.out)⟩
       case measure => simp [intOf]; omega
    ·have hltz : ¬ (v : Int) < (V : Int) := by omega
     obtain rfl : v = V := by omega
     clear hlt hvN
     obtain ⟨f1, f2, f3, f4⟩ := bfV_fin i v HN.out.1 HN.out.2
     obtain ⟨Qn, hQ⟩ : ∃ Q, min i 40 = Q := ⟨_, rfl⟩
     have hQ40 : Qn ≤ 40 := by omega
     have hmn : min (i : Int) 40 = (Qn : Int) := by omega
     have hwq : IntKind.i64.wrap (Qn : Int) = (Qn : Int) := IntWalk.i64_in _ (by omega)
     have hwq1 : IntKind.i64.wrap ((Qn : Int) + 1) = (Qn : Int) + 1 := IntWalk.i64_in _ (by omega)
     rw [hQ] at f4
     generalize bfV i v = s0 at *
     obtain ⟨M, hMM⟩ : ∃ M, s0.ms.length = M := ⟨_, rfl⟩
     obtain ⟨Ln, hLL⟩ : ∃ M, s0.l.length = M := ⟨_, rfl⟩
     rw [hMM, hLL] at HS
     rw [hMM] at f3
     rw [hLL] at f4
     have hM1 : (M : Int) ≤ 1 := by omega
     have y1 := Lib.hid (fun d' os => Calls.regrown_of (bmay_p s0 _ _ (Go.Sort.grow (redrawn wr d') os) (HS.out.below (below_regrown wr d' os)).at' f2))
     rw [f1] at y1
     unfold bagg at y1
     have HBL := Lib.hid HS.out.bl
     obtain ⟨q0, q1, q2, q3, q4, q5, q6, q7⟩ := HS.out.bc.cells
     have ql := HS.out.bc.lt
     have rr0 := cell_regrown q0
     have rr1 := cell_regrown q1
     have rr2 := cell_regrown q2
     have rr3 := cell_regrown q3
     have rr4 := cell_regrown q4
     have rr5 := cell_regrown q5
     have rr6 := cell_regrown q6
     have rr7 := cell_regrown q7
     clear HS f1 f2 f3 hMM hLL hQ HN HL q0 q1 q2 q3 q4 q5 q6 q7 ql
     go_wp2_with fail
     rcases Nat.eq_zero_or_pos i with hi0 | hi0
     ·have hk2 : ((i : Int) == 0) = true := by rw [beq_iff_eq]; omega
      rcases Nat.eq_zero_or_pos v with hv0 | hv0
      ·rw [if_neg (by omega : ¬ (i = 0 ∧ 0 < v)), Nat.add_zero] at f4
       subst f4
       have hv1 : ¬ (0 : Int) < (v : Int) := by omega
       have hv2 : ¬ 0 < v := by omega
       have y2 := Lib.hid (fun d' os => Calls.regrown_of (b2i_f (Go.Sort.grow (redrawn wr d') os)))
       clear hi0 hv0
       refine wp_region_quiet_below (by kernel_rfl) (by kernel_rfl) ?_
       repeat (quiet_step (first | (go_at_call 9; exact y1.out _ _) | (go_at_call 10; exact y2.out _ _)))
       refine wpQuiet_nil ?_
       intro _ hw'
       obtain ⟨⟨dq, osq⟩, hw''⟩ := hw'
       subst hw''
       have hE := HBL.out.trans ((below_regrown wr dq osq).mono HBL.out.size)
       go_wp2_with fail
       go_ret
       exact ⟨rfl, hE⟩
      ·rw [if_pos (by omega : i = 0 ∧ 0 < v)] at f4
       have hle : ((Ln : Int) == (Qn : Int) + 1) = true := by rw [beq_iff_eq]; omega
       have hv1 : (0 : Int) < (v : Int) := by omega
       have y2 := Lib.hid (fun d' os => Calls.regrown_of (b2i_t (Go.Sort.grow (redrawn wr d') os)))
       clear hi0 f4
       refine wp_region_quiet_below (by kernel_rfl) (by kernel_rfl) ?_
       repeat (quiet_step (first | (go_at_call 9; exact y1.out _ _) | (go_at_call 10; exact y2.out _ _)))
       refine wpQuiet_nil ?_
       intro _ hw'
       obtain ⟨⟨dq, osq⟩, hw''⟩ := hw'
       subst hw''
       have hE := HBL.out.trans ((below_regrown wr dq osq).mono HBL.out.size)
       go_wp2_with fail
       go_ret
       exact ⟨rfl, hE⟩
     ·have hk2 : ((i : Int) == 0) = false := by rw [beq_eq_false_iff_ne]; omega
      rw [if_neg (by omega : ¬ (i = 0 ∧ 0 < v)), Nat.add_zero] at f4
      subst f4
      have y2 := Lib.hid (fun d' os => Calls.regrown_of (b2i_f (Go.Sort.grow (redrawn wr d') os)))
      refine wp_region_quiet_below (by kernel_rfl) (by kernel_rfl) ?_
      repeat (quiet_step (first | (go_at_call 9; exact y1.out _ _) | (go_at_call 10; exact y2.out _ _)))
      refine wpQuiet_nil ?_
      intro _ hw'
      obtain ⟨⟨dq, osq⟩, hw''⟩ := hw'
      subst hw''
      have hE := HBL.out.trans ((below_regrown wr dq osq).mono HBL.out.size)
      go_wp2_with fail
      go_ret
      exact ⟨rfl, hE⟩


end Go.Proofs.YtlpgphiccjkenaaGreatDoor
