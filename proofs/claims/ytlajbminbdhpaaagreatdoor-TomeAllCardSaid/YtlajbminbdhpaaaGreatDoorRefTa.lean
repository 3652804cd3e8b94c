/-
 Contracts of the program, and what they rest on.
-/
import Derived.Test.YtlajbminbdhpaaaGreatDoorM09
import Derived.Lib.QuietBelow
import Derived.Test.YtlajbminbdhpaaaGreatDoorRRef2
set_option maxRecDepth 100000
set_option maxHeartbeats 16000000
namespace Go.Proofs.YtlajbminbdhpaaaGreatDoor
open Go.RowKit
def ratE (l : List Ve) (n : Int) : Int × Bool := match placeE l n with | some k => ((k : Int), true) | none => (0, false)
theorem rat_p (key : ByteArray) (v : Value) (l : List Ve) (n : Int) (w : World) (h : VsAt w v l) (hn : l.length ≤ 1000000) :
  Calls Tryz.prog 10 #[.agg #[.string key, v], .int .i64 n] w fun e w' => e = .returned (.tuple #[.int .i64 (ratE l n).1, .bool (ratE l n).2]) ∧ Below w.heap.size w w' := by
 obtain ⟨ad, cap, rfl, _⟩ := h.shape
 have HB : Hid (Below w.heap.size w (w.alloc (.cells #[.string key, .slice ad l.length cap] 24))) := Lib.hid ((Below.refl _ w).alloc (Nat.le_refl _) _)
 have HE := Lib.hid (EC.new w key ad l.length cap 24)
 have HV := Lib.hid (h.below HB.out)
 obtain ⟨R, hR⟩ : ∃ R, ratE l n = R := ⟨_, rfl⟩
 rw [hR]
 have HR := Lib.hid hR
 clear hR h
 go_enter Tryz.func10, Tryz.ntmps10
 go_wp2_with fail
 generalize w.alloc (.cells #[.string key, .slice ad l.length cap] 24) = W at *
 obtain ⟨⟨c0, c1⟩, _⟩ := HE.out
 go_loopw [6] (fun i wr => ∃ k : Nat, k ≤ l.length ∧ i = .int .i64 k ∧ wr = W ∧ Hid (∀ j y, j < k → l[j]? = some y → y.ver ≠ n)) (fun i _ => l.length - (intOf i).toNat)
 case atStart => exact ⟨0, Nat.zero_le _, rfl, rfl, Lib.hid (fun j y hj => absurd hj (Nat.not_lt_zero _))⟩
 case round =>
  obtain ⟨k, hk, rfl, rfl, A⟩ := hrel
  by_cases hlt : k < l.length
  ·have hltz : (k : Int) < (l.length : Int) := by omega
   obtain ⟨x, hx⟩ : ∃ x, l[k]? = some x := ⟨_, List.getElem?_eq_getElem hlt⟩
   obtain ⟨g, o, rfl, x0, x1, x2, hg⟩ := HV.out.get hx
   by_cases hq : x.ver = n
   ·obtain rfl : R = ((k : Int), true) := by
     rw [← HR.out]; unfold ratE; rw [place_hit hx hq A.out]
    clear hx
    go_wp2_with fail
    exact bodyPost_ret (v := .tuple #[.int .i64 k, .bool true]) (by simp [results, Tryz.results10, go_sem]) rfl ⟨rfl, HB.out⟩
   ·have hqb : (x.ver == n) = false := by rw [beq_eq_false_iff_ne]; exact hq
    have HN : Hid (∀ j y, j < k + 1 → l[j]? = some y → y.ver ≠ n) := Lib.hid (fun j y hj hy => by
     by_cases e : j = k
     ·subst e
      rw [hx] at hy
      cases hy
      exact hq
     ·exact A.out j y (by omega) hy)
    clear hx hq
    go_wp2_with fail
    go_roundw
    case rel => exact ⟨k + 1, by omega, by go_num, by first | rfl | trivial, HN⟩
    case measure => simp [intOf]; omega
  ·have hltz : ¬ (k : Int) < (l.length : Int) := by omega
   obtain rfl : R = (0, false) := by
    rw [← HR.out]; unfold ratE; rw [place_miss (fun j y hj => A.out j y (by omega))]
   go_wp2_with fail
   exact bodyPost_ret (v := .tuple #[.int .i64 0, .bool false]) (by simp [results, Tryz.results10, go_sem]) rfl ⟨rfl, HB.out⟩
def veq (x y : Ve) : Bool := x.ver == y.ver && (x.gone == y.gone && x.body.toList == y.body.toList)
theorem veq_iff (x y : Ve) : veq x y = true ↔ x = y := by
 obtain ⟨a1, a2, a3⟩ := x
 obtain ⟨b1, b2, b3⟩ := y
 unfold veq
 simp only [Bool.and_eq_true, beq_iff_eq, Ve.mk.injEq]
 constructor
 ·rintro ⟨h1, h2, h3⟩
  refine ⟨h1, h2, ?_⟩
  rw [ByteArray.toList_eq, ByteArray.toList_eq] at h3
  exact ByteArray.ext (Array.toList_inj.1 h3)
 ·rintro ⟨h1, h2, h3⟩
  exact ⟨h1, h2, by rw [h3]⟩
theorem reqe_p (key key' : ByteArray) (v v' : Value) (l l' : List Ve) (w : World) (h : VsAt w v l) (h' : VsAt w v' l') (hn : l.length ≤ 1000000) (hn' : l'.length ≤ 1000000) (R : Bool) (hR : R = true ↔ (key = key' ∧ l = l')) :
  Calls Tryz.prog 17 #[.agg #[.string key, v], .agg #[.string key', v']] w fun e w' => e = .returned (.bool R) ∧ Below w.heap.size w w' := by
 obtain ⟨ad, cap, rfl, _⟩ := h.shape
 obtain ⟨ad', cap', rfl, _⟩ := h'.shape
 have hb : Below w.heap.size w ((w.alloc (.cells #[.string key, .slice ad l.length cap] 24)).alloc (.cells #[.string key', .slice ad' l'.length cap'] 24)) := ((Below.refl _ w).alloc (Nat.le_refl _) _).alloc (by simp) _
 have HB := Lib.hid hb
 have h1 : EC ((w.alloc (.cells #[.string key, .slice ad l.length cap] 24)).alloc (.cells #[.string key', .slice ad' l'.length cap'] 24)) w.heap.size key (.slice ad l.length cap) := (EC.new w key ad l.length cap _).alloc _
 have h2 : EC ((w.alloc (.cells #[.string key, .slice ad l.length cap] 24)).alloc (.cells #[.string key', .slice ad' l'.length cap'] 24)) (w.heap.size + 1) key' (.slice ad' l'.length cap') := by
  have := EC.new (w.alloc (.cells #[.string key, .slice ad l.length cap] 24)) key' ad' l'.length cap' 24
  simpa using this
 have HV := Lib.hid (And.intro (h.below hb) (h'.below hb))
 have HR := Lib.hid hR
 clear h h' hb hR
 by_cases hk : key = key'
 case neg =>
  obtain rfl : R = false := by
   cases R with
   | false => rfl
   | true => exact absurd (HR.out.1 rfl).1 hk
  have hkb : (key.toList == key'.toList) = false := by
   rw [beq_eq_false_iff_ne]
   intro e
   rw [ByteArray.toList_eq, ByteArray.toList_eq] at e
   exact hk (ByteArray.ext (Array.toList_inj.1 e))
  have hkn : ¬ key.toList = key'.toList := by rw [← beq_iff_eq, hkb]; decide
  clear hk
  go_enter Tryz.func17, Tryz.ntmps17
  go_wp2_with fail
  generalize (w.alloc (.cells #[.string key, .slice ad l.length cap] 24)).alloc (.cells #[.string key', .slice ad' l'.length cap'] 24) = W at *
  obtain ⟨⟨c0, c1⟩, _⟩ := h1
  obtain ⟨⟨d0, d1⟩, _⟩ := h2
  exact bodyPost_ret (v := .bool false) (by simp [results, Tryz.results17, go_sem]) rfl ⟨rfl, HB.out⟩
 case pos =>
  subst hk
  by_cases hl : l.length = l'.length
  case neg =>
   obtain rfl : R = false := by
    cases R with
    | false => rfl
    | true => exact absurd (by rw [(HR.out.1 rfl).2]) hl
   have hlz : ((l.length : Int) == (l'.length : Int)) = false := by rw [beq_eq_false_iff_ne]; omega
   have hlz2 : ¬ (l.length : Int) = (l'.length : Int) := by omega
   clear hl
   go_enter Tryz.func17, Tryz.ntmps17
   go_wp2_with fail
   exact bodyPost_ret (v := .bool false) (by simp [results, Tryz.results17, go_sem]) rfl ⟨rfl, HB.out⟩
  case pos =>
   have HLL := Lib.hid hl
   rw [← hl] at h1 h2 HB HV
   rw [← hl]
   clear hl
   go_enter Tryz.func17, Tryz.ntmps17
   go_wp2_with fail
   generalize (w.alloc (.cells #[.string key, .slice ad l.length cap] 24)).alloc (.cells #[.string key, .slice ad' l.length cap'] 24) = W at *
   obtain ⟨⟨c0, c1⟩, _⟩ := h1
   obtain ⟨⟨d0, d1⟩, _⟩ := h2
   go_loopw [5] (fun i wr => ∃ k : Nat, k ≤ l.length ∧ i = .int .i64 k ∧ wr.cell? ⟨w.heap.size, 1, none⟩ = some (.slice ad l.length cap) ∧ wr.cell? ⟨w.heap.size + 1, 1, none⟩ = some (.slice ad' l.length cap') ∧ Hid (VsAt wr (.slice ad l.length cap) l) ∧ Hid (VsAt wr (.slice ad' l.length cap') l') ∧ Hid (Below w.heap.size w wr) ∧ Hid (∀ j, j < k → l[j]? = l'[j]?)) (fun i _ => l.length - (intOf i).toNat)
   case atStart => exact ⟨0, Nat.zero_le _, rfl, c1, d1, Lib.hid HV.out.1, Lib.hid HV.out.2, HB, Lib.hid (fun j hj => absurd hj (Nat.not_lt_zero _))⟩
   case round =>
    obtain ⟨k, hk, rfl, c1, d1, HV1, HV2, HBW, A⟩ := hrel
    by_cases hlt : k < l.length
    ·have hltz : (k : Int) < (l.length : Int) := by omega
     obtain ⟨x, hx⟩ : ∃ x, l[k]? = some x := ⟨_, List.getElem?_eq_getElem hlt⟩
     obtain ⟨y, hy⟩ : ∃ y, l'[k]? = some y := ⟨_, List.getElem?_eq_getElem (by have := HLL.out; omega)⟩
     obtain ⟨g, o, rfl, x0, x1, x2, hg⟩ := HV1.out.get hx
     obtain ⟨g', o', rfl, y0, y1, y2, hg'⟩ := HV2.out.get hy
     have HX := Lib.hid (And.intro hx hy)
     clear hx hy
     by_cases hq : x = y
     ·subst hq
      go_wp2_with fail
      go_region
      all_goals
       go_wp2_with fail
       go_roundw
       case rel => exact ⟨k + 1, by omega, by go_num, by assumption, by assumption, Lib.hid (HV1.out.kept (Nat.le_refl _) (fun _ _ => rfl)), Lib.hid (HV2.out.kept (Nat.le_refl _) (fun _ _ => rfl)), Lib.hid HBW.out.drew, Lib.hid (fun j hj => by
        by_cases e : j = k
        ·subst e
         rw [HX.out.1, HX.out.2]
        ·exact A.out j (by omega))⟩
       case measure => simp [intOf]; omega
     ·have hqv : veq x y = false := by
       rw [Bool.eq_false_iff]
       exact fun e => hq ((veq_iff x y).1 e)
      obtain rfl : R = false := by
       cases R with
       | false => rfl
       | true =>
        exfalso
        have := (HR.out.1 rfl).2
        subst this
        have h2 := HX.out
        rw [h2.1] at h2
        exact hq (Option.some.inj h2.2)
      obtain ⟨xv, xg, xb⟩ := x
      obtain ⟨yv, yg, yb⟩ := y
      dsimp only at x0 x1 x2 y0 y1 y2
      clear hq HX A
      unfold veq at hqv
      dsimp only at hqv
      by_cases hv : xv = yv
      ·subst hv
       rw [beq_self_eq_true, Bool.true_and] at hqv
       by_cases hgn : xg = yg
       ·subst hgn
        rw [beq_self_eq_true, Bool.true_and] at hqv
        have hbn : ¬ xb.toList = yb.toList := by rw [← beq_iff_eq, hqv]; decide
        go_wp2_with fail
        go_region
        all_goals
         go_wp2_with fail
         exact bodyPost_ret (v := .bool false) (by simp [results, Tryz.results17, go_sem]) rfl ⟨rfl, HBW.out.drew⟩
       ·have hgb : (xg == yg) = false := by rw [beq_eq_false_iff_ne]; exact hgn
        clear hqv
        go_wp2_with fail
        go_region
        all_goals
         go_wp2_with fail
         exact bodyPost_ret (v := .bool false) (by simp [results, Tryz.results17, go_sem]) rfl ⟨rfl, HBW.out.drew⟩
      ·have hvb : (xv == yv) = false := by rw [beq_eq_false_iff_ne]; exact hv
       clear hqv
       go_wp2_with fail
       go_region
       all_goals
        go_wp2_with fail
        exact bodyPost_ret (v := .bool false) (by simp [results, Tryz.results17, go_sem]) rfl ⟨rfl, HBW.out.drew⟩
    ·have hltz : ¬ (k : Int) < (l.length : Int) := by omega
     obtain rfl : R = true := HR.out.2 ⟨by first | rfl | trivial, List.ext_getElem? fun j => by
      by_cases hj : j < k
      ·exact A.out j hj
      ·rw [List.getElem?_eq_none (by omega), List.getElem?_eq_none (by have := HLL.out; omega)]⟩
     go_wp2_with fail
     exact bodyPost_ret (v := .bool true) (by simp [results, Tryz.results17, go_sem]) rfl ⟨rfl, HBW.out⟩
end Go.Proofs.YtlajbminbdhpaaaGreatDoor
