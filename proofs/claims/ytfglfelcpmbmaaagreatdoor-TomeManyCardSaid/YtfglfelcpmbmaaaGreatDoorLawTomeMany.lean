/-
 Contracts of the program, and what they rest on.
-/
import Derived.Test.YtfglfelcpmbmaaaGreatDoorM03
import Derived.Test.YtfglfelcpmbmaaaGreatDoorM13
import Derived.Test.YtfglfelcpmbmaaaGreatDoorRTomB
import Derived.Test.YtfglfelcpmbmaaaGreatDoorRRef2
import Derived.Test.YtfglfelcpmbmaaaGreatDoorRMark
import Derived.Test.YtfglfelcpmbmaaaGreatDoorRTomC
import Derived.Test.YtfglfelcpmbmaaaGreatDoorRTomF
import Derived.Test.YtfglfelcpmbmaaaGreatDoorRDeW
import Derived.Test.YtfglfelcpmbmaaaGreatDoorREqJ
import Derived.Test.YtfglfelcpmbmaaaGreatDoorTomP
import Derived.Test.YtfglfelcpmbmaaaGreatDoorDigits2
set_option maxRecDepth 100000
set_option maxHeartbeats 16000000
namespace Go.Proofs.YtfglfelcpmbmaaaGreatDoor
open Go.RowKit
def ManyOk (l : List Ve) (z : Int) (i : Nat) : Prop := riseV 0 l = true ∧ lastW 0 l = z ∧ z ≤ 3 * i ∧ l.length ≤ 12 ∧ l.length ≤ i
theorem ec_put {w : World} {b : Nat} {key : ByteArray} {v : Value} (h : EC w b key v) (v' : Value) : EC (((w.setCell ⟨b, 0, none⟩ (.string key)).setCell ⟨b, 1, none⟩ v').drew) b key v' := by
 obtain ⟨⟨h0, h1⟩, f0, f1⟩ := h
 refine ⟨⟨?_, ?_⟩, ?_, ?_⟩ <;> go_simp
theorem pureV_small {v : Int} {b : ByteArray} (h : b.size ≤ 300) : pureV ⟨v, false, b⟩ = true := decide_eq_true h
theorem tomeMany_walk (v : Value) (len : Nat) (cs : Nat → Int) (b off cap : Nat) (ad : Option Addr) (hv : v = .slice ad len cap) (had : 0 < len → ad = some ⟨b, off, none⟩) (w : World) (hbg : Begun5True) (h : LibAt w)
  (hl : len ≤ 9223372036854775807) (hb : 0 < len → b < w.heap.size) (hc : ∀ i, i < len → w.cell? ⟨b, off + i, none⟩ = some (.int .i64 (cs i))) :
  Calls Tryz.prog 8 #[v] w fun e w' => e = .returned (.bool true) ∧ Below w.heap.size w w' := by
 subst hv
 have HB := Lib.hid (hbg w h)
 have HA := Lib.hid (And.intro had (And.intro hb hc))
 clear hbg h had hb hc
 go_enter Tryz.func8, Tryz.ntmps8
 go_wp2_with fail
 refine HB.out.mono ?_
 rintro _ w0 ⟨rfl, hb1⟩
 have hE := EC.new w0 ⟨#[107]⟩ none 0 0 59
 have HB1 := Lib.hid (hb1.alloc hb1.size (.cells #[.string ⟨#[107]⟩, .slice none 0 0] 59))
 have hs0 : w.heap.size ≤ w0.heap.size := hb1.size
 clear hb1 HB
 go_wp2_with fail
 generalize w0.alloc (.cells #[.string ⟨#[107]⟩, .slice none 0 0] 59) = W0 at *
 generalize w0.heap.size = E at *
 have HE := Lib.hid hE
 clear hE
 go_loopw [5, 6] (fun vv iv wr => ∃ (i : Nat) (l : List Ve) (ad' : Option Addr) (cap' : Nat) (z : Int), iv = .int .i64 i ∧ vv = .int .i64 z ∧ i ≤ 20 ∧ Hid (EC wr E ⟨#[107]⟩ (.slice ad' l.length cap')) ∧ Hid (VsAt wr (.slice ad' l.length cap') l) ∧ Hid (ManyOk l z i) ∧ Hid (Below w.heap.size w wr)) (fun _ iv _ => 20 - (intOf iv).toNat)
 case atStart => exact ⟨0, [], none, 0, 0, rfl, rfl, by omega, HE, Lib.hid (.inl ⟨rfl, rfl⟩), Lib.hid ⟨rfl, rfl, by omega, by decide, by decide⟩, HB1⟩
 case round =>
  obtain ⟨i, l, ad', cap', z, rfl, rfl, hi, HEC, HVS, HOK, HBW⟩ := hrel
  by_cases hlt : i < len ∧ i < 20
  ·have h1 : (i : Int) < (len : Int) := by omega
   have h2 : (i : Int) < 20 := by omega
   obtain rfl := HA.out.1 (by omega)
   have cx : wr.cell? ⟨b, off + i, none⟩ = some (.int .i64 (cs i)) := by rw [HBW.out.cell (HA.out.2.1 (by omega))]; exact HA.out.2.2 i hlt.1
   obtain ⟨by', hby⟩ : ∃ y, (cs i).tmod 4 = y := ⟨_, rfl⟩
   have hb3 : -3 ≤ by' ∧ by' ≤ 3 := by
    rw [← hby]
    have g1 := Int.tmod_lt_of_pos (cs i) (show (0 : Int) < 4 by decide)
    have g2 := Int.lt_tmod_of_pos (cs i) (show (0 : Int) < 4 by decide)
    omega
   have hz0 : 0 ≤ z ∧ z ≤ 60 := by
    obtain ⟨g1, g2, g3, _⟩ := HOK.out
    have := (rise_le l 0 g1).1
    omega
   have hw1 : IntKind.i64.wrap (z + by') = z + by' := IntWalk.i64_in _ (by omega)
   have RD := Lib.hid (rDigits (i : Int) (by omega) (by omega))
   have hd : (decS (i : Int)).size ≤ 21 := decS_size _ (by omega) (by omega)
   generalize decS (i : Int) = D at *
   obtain ⟨⟨c0, c1⟩, f0, f1⟩ := HEC.out
   clear hlt
   go_wp2_with fail
   refine (RD.out _).mono ?_
   rintro _ w1 ⟨rfl, hb4⟩
   have hX := VC3.new w1 ⟨z + by', false, D⟩ 61
   have hbx : Below wr.heap.size wr (w1.alloc (.cells #[.int .i64 (z + by'), .bool false, .string D] 61)) := hb4.alloc hb4.size _
   have HEC1 := Lib.hid (HEC.out.below hbx)
   have HVS1 := Lib.hid (HVS.out.below hbx)
   have HBW1 := Lib.hid (HBW.out.trans (hbx.mono HBW.out.size))
   dsimp only at hX
   by_cases t1 : z + by' < 1
   ·clear c0 c1 f0 f1 hb4 hbx hX cx
    go_wp2_with fail
    go_roundw
    case rel => exact ⟨i + 1, l, ad', cap', z, by go_num, rfl, by omega, HEC1, HVS1, Lib.hid (by obtain ⟨g1, g2, g3, g4, g5⟩ := HOK.out; exact ⟨g1, g2, by omega, g4, by omega⟩), HBW1⟩
    case measure => simp [intOf]; omega
   have t1b : decide (z + by' < 1) = false := decide_eq_false t1
   have hEX : E < w1.heap.size := Nat.lt_of_lt_of_le HEC.out.lt hb4.size
   clear c0 c1 f0 f1 hb4 hbx cx HEC HVS HBW
   obtain ⟨⟨c0, c1⟩, f0, f1⟩ := HEC1.out
   have HX := Lib.hid hX
   obtain ⟨⟨x0, x1, x2⟩, _⟩ := hX
   have hll : l.length ≤ 12 := HOK.out.2.2.2.1
   have HADD := Lib.hid (add_p ⟨#[107]⟩ _ l ⟨z + by', false, D⟩ _ HVS1.out (by omega))
   unfold addE at HADD
   dsimp only at HADD x0 x1 x2
   have hmay := @mayAdd_rise l (z + by')
   rw [HOK.out.2.1] at hmay
   go_wp2_with fail
   generalize hW1 : w1.alloc (.cells #[.int .i64 (z + by'), .bool false, .string D] 61) = W1 at *
   have hXlt : w1.heap.size < W1.heap.size := HX.out.lt
   generalize w1.heap.size = X at *
   clear hW1
   refine HADD.out.mono ?_
   rintro _ w2 ⟨a2, cap2, rfl, ho, hb5⟩
   clear HADD
   cases hm : mayAdd l (z + by') with
   | false =>
    rw [hm] at ho hmay
    simp only [Bool.false_eq_true, if_false] at ho ⊢
    have hb6 : Below W1.heap.size W1 (w2.alloc (.cells #[.string ⟨#[107]⟩, .slice a2 l.length cap2] 59)) := hb5.alloc hb5.size _
    have HEC2 := Lib.hid (HEC1.out.below hb6)
    have HVS2 := Lib.hid (HVS1.out.below hb6)
    have HBW2 := Lib.hid (HBW1.out.trans (hb6.mono HBW1.out.size))
    clear c0 c1 f0 f1 hb5 hb6 ho x0 x1 x2 HX HEC1 HVS1 HBW1 hXlt
    obtain ⟨⟨c0, c1⟩, f0, f1⟩ := HEC2.out
    have hNEXT : ManyOk l z (i + 1) := by obtain ⟨g1, g2, g3, g4, g5⟩ := HOK.out; exact ⟨g1, g2, by omega, g4, by omega⟩
    have HN := Lib.hid hNEXT
    clear hNEXT
    by_cases t12 : l.length < 12
    ·have hz12 : (l.length : Int) < 12 := by omega
     rw [decide_eq_true t12, Bool.true_and] at hmay
     have hne : ¬ l = [] := fun e => by rw [decide_eq_true e] at hmay; simp at hmay
     rw [decide_eq_false hne, Bool.false_or] at hmay
     have hby0 : ¬ z < z + by' := fun e => by rw [decide_eq_true e] at hmay; cases hmay
     have hbyn : decide (0 < by') = false := decide_eq_false (by omega)
     have hl0 : ((l.length : Int) == 0) = false := by
      rw [beq_eq_false_iff_ne]
      intro e
      exact hne (List.eq_nil_of_length_eq_zero (by omega))
     clear hmay hby0 hne
     go_wp2_with fail
     go_roundw
     case rel => exact ⟨i + 1, l, ad', cap', z, by go_num, rfl, by omega, HEC2, HVS2, HN, HBW2⟩
     case measure => simp [intOf]; omega
    ·have hz12 : decide ((l.length : Int) < 12) = false := decide_eq_false (by omega)
     clear hmay
     go_wp2_with fail
     go_roundw
     case rel => exact ⟨i + 1, l, ad', cap', z, by go_num, rfl, by omega, HEC2, HVS2, HN, HBW2⟩
     case measure => simp [intOf]; omega
   | true =>
    rw [hm] at ho hmay
    simp only [if_true] at ho ⊢
    have h12 : l.length < 12 := by
     by_cases e : l.length < 12
     ·exact e
     ·rw [decide_eq_false e] at hmay; simp at hmay
    have hbp : 0 < by' := by
     rw [decide_eq_true h12, Bool.true_and] at hmay
     by_cases e : l = []
     ·have := HOK.out.2.1
      rw [e] at this
      have : (0 : Int) = z := this
      omega
     ·rw [decide_eq_false e, Bool.false_or] at hmay
      have := of_decide_eq_true hmay.symm
      omega
    have hz12 : (l.length : Int) < 12 := by omega
    have HP : Hid (ManyOk (l ++ [⟨z + by', false, D⟩]) (z + by') (i + 1) ∧ atE (l ++ [⟨z + by', false, D⟩]) (z + by') = (⟨z + by', false, D⟩, true) ∧ nowE (l ++ [⟨z + by', false, D⟩]) = (⟨z + by', false, D⟩, true)) := Lib.hid (by
     obtain ⟨g1, g2, g3, g4, g5⟩ := HOK.out
     refine ⟨⟨rise_snoc l 0 _ g1 (by rw [g2]; dsimp only; omega) (by dsimp only; omega) (pureV_small (by omega)), lastW_snoc l 0 _, by omega, by simp; omega, by simp; omega⟩, atE_snoc (x := ⟨z + by', false, D⟩) (fun y hy => ?_), nowE_snoc l _⟩
     have := (rise_le l 0 g1).2 y hy
     rw [g2] at this
     dsimp only
     omega)
    generalize l ++ [(⟨z + by', false, D⟩ : Ve)] = l2 at *
    have hb6 : Below W1.heap.size W1 (w2.alloc (.cells #[.string ⟨#[107]⟩, .slice a2 l2.length cap2] 59)) := hb5.alloc hb5.size _
    have HEC2 := Lib.hid (HEC1.out.below hb6)
    have HX2 := Lib.hid (HX.out.below hb6)
    have HVS2 := Lib.hid (ho.at.below ((Below.refl _ w2).alloc (Nat.le_refl _) (.cells #[.string ⟨#[107]⟩, .slice a2 l2.length cap2] 59)))
    have HBW2 := Lib.hid (HBW1.out.trans (hb6.mono HBW1.out.size))
    have HEC3 := Lib.hid (EC.new w2 ⟨#[107]⟩ a2 l2.length cap2 59)
    have HOWN : Hid (∀ g, (Value.slice a2 l2.length cap2).ownBlock = some g → g ≠ E) := Lib.hid (fun g hg => by have := (ho.lt hg).1; omega)
    have hW1w2 : W1.heap.size ≤ w2.heap.size := hb5.size
    clear c0 c1 f0 f1 hb5 hb6 ho x0 x1 x2 HX HEC1 HVS1 HBW1 hmay
    obtain ⟨⟨c0, c1⟩, f0, f1⟩ := HEC2.out
    obtain ⟨⟨y0, y1⟩, _⟩ := HEC3.out
    obtain ⟨⟨x0, x1, x2⟩, _⟩ := HX2.out
    dsimp only at x0 x1 x2
    go_wp2_with fail
    generalize w2.alloc (.cells #[.string ⟨#[107]⟩, .slice a2 l2.length cap2] 59) = W2 at *
    generalize hY : w2.heap.size = Y at *
    go_region
    all_goals
     have hne1 : X ≠ E := by omega
     have hEC := ec_put HEC2.out (.slice a2 l2.length cap2)
     have hkeep : ∀ g, g ≠ E → (((W2.setCell ⟨E, 0, none⟩ (.string ⟨#[107]⟩)).setCell ⟨E, 1, none⟩ (.slice a2 l2.length cap2)).drew).heap[g]? = W2.heap[g]? := fun g hg => by
      show (((W2.setCell ⟨E, 0, none⟩ (.string ⟨#[107]⟩)).setCell ⟨E, 1, none⟩ (.slice a2 l2.length cap2))).heap[g]? = W2.heap[g]?
      rw [Below.heap_setCell _ _ _ _ (by simpa using hg), Below.heap_setCell _ _ _ _ (by simpa using hg)]
     have HVS3 := Lib.hid (HVS2.out.kept (w' := ((W2.setCell ⟨E, 0, none⟩ (.string ⟨#[107]⟩)).setCell ⟨E, 1, none⟩ (.slice a2 l2.length cap2)).drew) (by simp) (fun g hg => hkeep g (HOWN.out g hg)))
     have HX3 := Lib.hid (HX2.out.kept (hkeep X hne1))
     have HBW3 := Lib.hid (((HBW2.out.setCell (p := ⟨E, 0, none⟩) hs0 (.string ⟨#[107]⟩)).setCell (p := ⟨E, 1, none⟩) hs0 (.slice a2 l2.length cap2)).drew)
     have HE3 := Lib.hid hEC
     clear c0 c1 f0 f1 y0 y1 x0 x1 x2 hkeep hEC HEC2 HX2 HVS2 HBW2 HEC3
     generalize ((W2.setCell ⟨E, 0, none⟩ (.string ⟨#[107]⟩)).setCell ⟨E, 1, none⟩ (.slice a2 l2.length cap2)).drew = W3 at *
     obtain ⟨⟨c0, c1⟩, _⟩ := HE3.out
     have hl2 : l2.length ≤ 1000000 := by have := HP.out.1.2.2.2.1; omega
     go_wp2_with fail
     have hAT := at_p ⟨#[107]⟩ _ l2 (z + by') W3 HVS3.out hl2
     rw [HP.out.2.1] at hAT
     unfold vtup at hAT
     dsimp only at hAT
     refine hAT.mono ?_
     rintro _ w4 ⟨rfl, hb7⟩
     clear hAT c0 c1
     have hP4 := VC3.new w4 ⟨z + by', false, D⟩ 61
     have hb8 : Below W3.heap.size W3 (w4.alloc (.cells #[.int .i64 (z + by'), .bool false, .string D] 61)) := hb7.alloc hb7.size _
     have HE4 := Lib.hid (HE3.out.below hb8)
     have HX4 := Lib.hid (HX3.out.below hb8)
     have HVS4 := Lib.hid (HVS3.out.below hb8)
     have HBW4 := Lib.hid (HBW3.out.trans (hb8.mono HBW3.out.size))
     have HP4 := Lib.hid hP4
     clear hb7 hb8 hP4 HE3 HX3 HVS3 HBW3
     obtain ⟨⟨c0, c1⟩, _⟩ := HE4.out
     go_wp2_with fail
     generalize hW4 : w4.alloc (.cells #[.int .i64 (z + by'), .bool false, .string D] 61) = W4 at *
     generalize w4.heap.size = P at *
     clear hW4
     have hNOW := now_p ⟨#[107]⟩ _ l2 W4 HVS4.out hl2
     rw [HP.out.2.2] at hNOW
     unfold vtup at hNOW
     dsimp only at hNOW
     refine hNOW.mono ?_
     rintro _ w5 ⟨rfl, hb7⟩
     clear hNOW c0 c1
     have hP5 := VC3.new w5 ⟨z + by', false, D⟩ 61
     have hb8 : Below W4.heap.size W4 (w5.alloc (.cells #[.int .i64 (z + by'), .bool false, .string D] 61)) := hb7.alloc hb7.size _
     have HE5 := Lib.hid (HE4.out.below hb8)
     have HVS5 := Lib.hid (HVS4.out.below hb8)
     have HBW5 := Lib.hid (HBW4.out.trans (hb8.mono HBW4.out.size))
     obtain ⟨⟨x0, x1, x2⟩, _⟩ := HX4.out.below hb8
     obtain ⟨⟨p0, p1, p2⟩, _⟩ := HP4.out.below hb8
     dsimp only at x0 x1 x2 p0 p1 p2
     clear hb7 hb8 hP5 HE4 HX4 HVS4 HBW4 HP4
     go_wp2_with fail
     go_roundw
     case rel => exact ⟨i + 1, l2, a2, cap2, z + by', by go_num, rfl, by omega, HE5, HVS5, Lib.hid HP.out.1, HBW5⟩
     case measure => simp [intOf]; omega
  ·obtain ⟨⟨c0, c1⟩, _⟩ := HEC.out
   have hend : Hid (¬ l = [] → mayE ⟨#[107]⟩ l = true) := Lib.hid (fun e => by
    obtain ⟨g1, g2, g3, g4, g5⟩ := HOK.out
    unfold mayE
    rw [g1, show keyB ⟨#[107]⟩ = true by decide, decide_eq_true g4]
    have : 1 ≤ l.length := by
     cases l with
     | nil => exact absurd rfl e
     | cons => simp
    rw [decide_eq_true this]
    rfl)
   have HM := Lib.hid (tmay_p ⟨#[107]⟩ _ l wr HVS.out (by have := HOK.out.2.2.2.1; omega))
   have hB := Lib.hid HBW.out
   clear HEC HOK
   by_cases hil : i < len
   ·have t1 : (i : Int) < (len : Int) := by omega
    have t2 : decide ((i : Int) < 20) = false := decide_eq_false (by omega)
    have t3 : ¬ (i : Int) < 20 := by omega
    by_cases hln : l = []
    ·subst hln
     have c1 : wr.cell? ⟨E, 1, none⟩ = some (.slice ad' 0 cap') := c1
     clear hend HM HVS
     go_wp2_with fail
     go_ret
     exact ⟨rfl, hB.out⟩
    ·have hl0 : ((l.length : Int) == 0) = false := by
      rw [beq_eq_false_iff_ne]
      intro e
      exact hln (List.eq_nil_of_length_eq_zero (by omega))
     have hM2 := HM.out
     rw [hend.out hln] at hM2
     clear hln hend HM
     go_wp2_with fail
     refine hM2.mono ?_
     rintro _ w9 ⟨rfl, hb9⟩
     have hB9 := Lib.hid (hB.out.trans (hb9.mono hB.out.size))
     clear hb9 hM2
     go_wp2_with fail
     go_ret
     exact ⟨rfl, hB9.out⟩
   ·have t1 : decide ((i : Int) < (len : Int)) = false := decide_eq_false (by omega)
    have t3 : ¬ (i : Int) < (len : Int) := by omega
    by_cases hln : l = []
    ·subst hln
     have c1 : wr.cell? ⟨E, 1, none⟩ = some (.slice ad' 0 cap') := c1
     clear hend HM HVS
     go_wp2_with fail
     go_ret
     exact ⟨rfl, hB.out⟩
    ·have hl0 : ((l.length : Int) == 0) = false := by
      rw [beq_eq_false_iff_ne]
      intro e
      exact hln (List.eq_nil_of_length_eq_zero (by omega))
     have hM2 := HM.out
     rw [hend.out hln] at hM2
     clear hln hend HM
     go_wp2_with fail
     refine hM2.mono ?_
     rintro _ w9 ⟨rfl, hb9⟩
     have hB9 := Lib.hid (hB.out.trans (hb9.mono hB.out.size))
     clear hb9 hM2
     go_wp2_with fail
     go_ret
     exact ⟨rfl, hB9.out⟩
end Go.Proofs.YtfglfelcpmbmaaaGreatDoor
