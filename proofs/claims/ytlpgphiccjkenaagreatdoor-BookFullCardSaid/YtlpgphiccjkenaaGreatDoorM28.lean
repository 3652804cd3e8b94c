/-
 Contracts of the program, and what they rest on.
-/
import Derived.Test.YtlpgphiccjkenaaGreatDoorM12
import Derived.Laws.StructEq
set_option maxRecDepth 100000
set_option maxHeartbeats 16000000
namespace Go.Proofs.YtlpgphiccjkenaaGreatDoor
open Go.RowKit
theorem vequal_p (v v' : Value) (l l' : List Ve) (w : World) (h : VsAt w v l) (h' : VsAt w v' l') (hn : l.length ≤ 1000000) (hn' : l'.length ≤ 1000000) (R : Bool) (hR : R = true ↔ l = l') :
  Calls Tryz.prog 116 #[v, v'] w fun e w' => e = .returned (.bool R) ∧ Below w.heap.size w w' := by
 obtain ⟨ad, cap, rfl, _⟩ := h.shape
 obtain ⟨ad', cap', rfl, _⟩ := h'.shape
 have HV := Lib.hid (And.intro h h')
 have HR := Lib.hid hR
 clear h h' hR
 by_cases hl : l.length = l'.length
 case neg =>
  obtain rfl : R = false := by
   cases R with
   | false => rfl
   | true => exact absurd (by rw [HR.out.1 rfl]) hl
  have hlz : ((l.length : Int) != (l'.length : Int)) = true := by rw [bne_iff_ne]; omega
  have hlz2 : ¬ (l.length : Int) = (l'.length : Int) := by omega
  clear hl
  go_enter Tryz.func116, Tryz.ntmps116
  go_wp2_with fail
  go_ret
  exact ⟨rfl, Below.refl _ _⟩
 case pos =>
  have HLL := Lib.hid hl
  rw [← hl] at HV
  rw [← hl]
  clear hl
  go_enter Tryz.func116, Tryz.ntmps116
  go_wp2_with fail
  go_loopg [5, 13] l.length (fun gg _ s13 wr => ∃ k : Nat, k ≤ l.length ∧ l.length - k ≤ gg ∧ s13 = .int .i64 k ∧ Hid (Below w.heap.size w wr) ∧ Hid (∀ j, j < k → l[j]? = l'[j]?))
  case atStart => exact ⟨0, Nat.zero_le _, by omega, rfl, Lib.hid (Below.refl _ _), Lib.hid (fun j hj => absurd hj (Nat.not_lt_zero _))⟩
  case round =>
   obtain ⟨k, hk, hg, rfl, HBW, A⟩ := hrel
   by_cases hlt : k < l.length
   ·have hltz : (k : Int) < (l.length : Int) := by omega
    obtain ⟨x, hx⟩ : ∃ x, l[k]? = some x := ⟨_, List.getElem?_eq_getElem hlt⟩
    obtain ⟨y, hy⟩ : ∃ y, l'[k]? = some y := ⟨_, List.getElem?_eq_getElem (by have := HLL.out; omega)⟩
    obtain ⟨g, o, rfl, x0, x1, x2, hgx⟩ := (HV.out.1.below HBW.out).get hx
    obtain ⟨g', o', rfl, y0, y1, y2, hgy⟩ := (HV.out.2.below HBW.out).get hy
    have HX := Lib.hid (And.intro hx hy)
    clear hx hy hgx hgy
    by_cases hq : x = y
    ·subst hq
     have HN : Hid (∀ j, j < k + 1 → l[j]? = l'[j]?) := Lib.hid (fun j hj => by
      by_cases e : j = k
      ·subst e
       rw [HX.out.1, HX.out.2]
      ·exact A.out j (by omega))
     go_wp2_with fail
     go_region
     all_goals
      go_wp2_with fail
      go_roundg (l.length - (k + 1))
      case measure => omega
      case rel => exact ⟨k + 1, by omega, by omega, by go_num, Lib.hid HBW.out.drew, HN⟩
    ·obtain rfl : R = false := by
      cases R with
      | false => rfl
      | true =>
       exfalso
       have := HR.out.1 rfl
       subst this
       have h2 := HX.out
       rw [h2.1] at h2
       exact hq (Option.some.inj h2.2)
     clear HX A
     obtain ⟨xv, xg, xb⟩ := x
     obtain ⟨yv, yg, yb⟩ := y
     dsimp only at x0 x1 x2 y0 y1 y2
     by_cases hv : xv = yv
     ·subst hv
      by_cases hgn : xg = yg
      ·subst hgn
       have hbn : ¬ xb.toList = yb.toList := fun e => hq (by rw [ba_toList_inj e])
       clear hq
       go_wp2_with fail
       go_region
       all_goals
        go_wp2_with fail
        go_ret
        exact ⟨rfl, HBW.out.drew⟩
      ·have hgb : (xg == yg) = false := by rw [beq_eq_false_iff_ne]; exact hgn
       clear hq
       go_wp2_with fail
       go_region
       all_goals
        go_wp2_with fail
        go_ret
        exact ⟨rfl, HBW.out.drew⟩
     ·have hvb : (xv == yv) = false := by rw [beq_eq_false_iff_ne]; exact hv
      clear hq
      go_wp2_with fail
      go_region
      all_goals
       go_wp2_with fail
       go_ret
       exact ⟨rfl, HBW.out.drew⟩
   ·have hltz : ¬ (k : Int) < (l.length : Int) := by omega
    obtain rfl : R = true := HR.out.2 (List.ext_getElem? fun j => by
     by_cases hj : j < k
     ·exact A.out j hj
     ·rw [List.getElem?_eq_none (by omega), List.getElem?_eq_none (by have := HLL.out; omega)])
    go_wp2_with fail
    go_ret
    exact ⟨rfl, HBW.out⟩
theorem mequal_p (v v' : Value) (l l' : List Me) (w : World) (h : MsAt w v l) (h' : MsAt w v' l') (hn : l.length ≤ 1000000) (hn' : l'.length ≤ 1000000) (R : Bool) (hR : R = true ↔ l = l') :
  Calls Tryz.prog 59 #[v, v'] w fun e w' => e = .returned (.bool R) ∧ Below w.heap.size w w' := by
 obtain ⟨ad, cap, rfl, _⟩ := h.shape
 obtain ⟨ad', cap', rfl, _⟩ := h'.shape
 have HV := Lib.hid (And.intro h h')
 have HR := Lib.hid hR
 clear h h' hR
 by_cases hl : l.length = l'.length
 case neg =>
  obtain rfl : R = false := by
   cases R with
   | false => rfl
   | true => exact absurd (by rw [HR.out.1 rfl]) hl
  have hlz : ((l.length : Int) != (l'.length : Int)) = true := by rw [bne_iff_ne]; omega
  have hlz2 : ¬ (l.length : Int) = (l'.length : Int) := by omega
  clear hl
  go_enter Tryz.func59, Tryz.ntmps59
  go_wp2_with fail
  go_ret
  exact ⟨rfl, Below.refl _ _⟩
 case pos =>
  have HLL := Lib.hid hl
  rw [← hl] at HV
  rw [← hl]
  clear hl
  go_enter Tryz.func59, Tryz.ntmps59
  go_wp2_with fail
  go_loopg [5, 13] l.length (fun gg _ s13 wr => ∃ k : Nat, k ≤ l.length ∧ l.length - k ≤ gg ∧ s13 = .int .i64 k ∧ Hid (Below w.heap.size w wr) ∧ Hid (∀ j, j < k → l[j]? = l'[j]?))
  case atStart => exact ⟨0, Nat.zero_le _, by omega, rfl, Lib.hid (Below.refl _ _), Lib.hid (fun j hj => absurd hj (Nat.not_lt_zero _))⟩
  case round =>
   obtain ⟨k, hk, hg, rfl, HBW, A⟩ := hrel
   by_cases hlt : k < l.length
   ·have hltz : (k : Int) < (l.length : Int) := by omega
    obtain ⟨x, hx⟩ : ∃ x, l[k]? = some x := ⟨_, List.getElem?_eq_getElem hlt⟩
    obtain ⟨y, hy⟩ : ∃ y, l'[k]? = some y := ⟨_, List.getElem?_eq_getElem (by have := HLL.out; omega)⟩
    obtain ⟨g, o, rfl, x0, x1, x2, hgx⟩ := (HV.out.1.below HBW.out).get hx
    obtain ⟨g', o', rfl, y0, y1, y2, hgy⟩ := (HV.out.2.below HBW.out).get hy
    have HX := Lib.hid (And.intro hx hy)
    clear hx hy hgx hgy
    by_cases hq : x = y
    ·subst hq
     have HN : Hid (∀ j, j < k + 1 → l[j]? = l'[j]?) := Lib.hid (fun j hj => by
      by_cases e : j = k
      ·subst e
       rw [HX.out.1, HX.out.2]
      ·exact A.out j (by omega))
     go_wp2_with fail
     go_region
     all_goals
      go_wp2_with fail
      go_roundg (l.length - (k + 1))
      case measure => omega
      case rel => exact ⟨k + 1, by omega, by omega, by go_num, Lib.hid HBW.out.drew, HN⟩
    ·obtain rfl : R = false := by
      cases R with
      | false => rfl
      | true =>
       exfalso
       have := HR.out.1 rfl
       subst this
       have h2 := HX.out
       rw [h2.1] at h2
       exact hq (Option.some.inj h2.2)
     clear HX A
     obtain ⟨xr, xe, xv⟩ := x
     obtain ⟨yr, ye, yv⟩ := y
     dsimp only at x0 x1 x2 y0 y1 y2
     by_cases hv : xr = yr
     ·subst hv
      by_cases hgn : xe = ye
      ·subst hgn
       have hbn : ¬ xv = yv := fun e => hq (by rw [e])
       have hbb : (xv == yv) = false := by rw [beq_eq_false_iff_ne]; exact hbn
       clear hq
       go_wp2_with fail
       go_region
       all_goals
        go_wp2_with fail
        go_ret
        exact ⟨rfl, HBW.out.drew⟩
      ·have hgb : (xe == ye) = false := by rw [beq_eq_false_iff_ne]; exact hgn
       clear hq
       go_wp2_with fail
       go_region
       all_goals
        go_wp2_with fail
        go_ret
        exact ⟨rfl, HBW.out.drew⟩
     ·have hvb : (xr == yr) = false := by rw [beq_eq_false_iff_ne]; exact hv
      clear hq
      go_wp2_with fail
      go_region
      all_goals
       go_wp2_with fail
       go_ret
       exact ⟨rfl, HBW.out.drew⟩
   ·have hltz : ¬ (k : Int) < (l.length : Int) := by omega
    obtain rfl : R = true := HR.out.2 (List.ext_getElem? fun j => by
     by_cases hj : j < k
     ·exact A.out j hj
     ·rw [List.getElem?_eq_none (by omega), List.getElem?_eq_none (by have := HLL.out; omega)])
    go_wp2_with fail
    go_ret
    exact ⟨rfl, HBW.out⟩
theorem part5 (a b c d e : Int) (w : World) : ∀ k, k < 5 → ∀ x, [a, b, c, d, e][k]? = some x → (part 2 #[.int .i64 a, .int .i64 b, .int .i64 c, .int .i64 d, .int .i64 e] (k * 1)).run Tryz.prog w = .ok (.int .i64 x) w := by
 intro k hk x hx
 obtain rfl | rfl | rfl | rfl | rfl : k = 0 ∨ k = 1 ∨ k = 2 ∨ k = 3 ∨ k = 4 := by omega
 all_goals
  simp at hx
  subst hx
  simp [go_sem]
theorem eq5' (n : Nat) (a b c d e a' b' c' d' e' : Int) (w : World) : (Op.equalIn (n + 1 + 1) 25 (.agg #[.int .i64 a, .int .i64 b, .int .i64 c, .int .i64 d, .int .i64 e]) (.agg #[.int .i64 a', .int .i64 b', .int .i64 c', .int .i64 d', .int .i64 e'])).run Tryz.prog w = .ok (a == a' && b == b' && c == c' && d == d' && e == e') w := by
 have hi : ∀ (x y : Int) (w : World), (Op.equalIn (n + 1) 2 (.int .i64 x) (.int .i64 y)).run Tryz.prog w = .ok (x == y) w := fun x y w => run_equalIn_int w n 2 .i64 .i64 x y Tryz.underlying2
 have hp := part5 a b c d e
 have hq := part5 a' b' c' d' e'
 rw [Op.equalIn]
 simp only [Sem.run_bind, run_underlying Tryz.underlying25, Result.andThen_ok, Tryz.sizeOf2]
 rw [Std.Legacy.Range.forIn_eq_forIn_range']
 have ks : List.range' 0 (Std.Legacy.Range.size [0:5]) 1 = [0, 1, 2, 3, 4] := by decide
 simp only [Std.Legacy.Range.size] at ks ⊢
 rw [ks]
 simp only [List.forIn_cons, List.forIn_nil, Sem.run_bind, hp _ 0 (by decide) a rfl, hq _ 0 (by decide) a' rfl, hi, Result.andThen_ok]
 cases h1 : (a == a') with
 | false => simp [Result.andThen_ok]
 | true =>
 simp only [Bool.not_true, Bool.false_eq_true, if_false, Sem.run_pure, Sem.run_bind, Result.andThen_ok, hp _ 1 (by decide) b rfl, hq _ 1 (by decide) b' rfl, hi]
 cases h2 : (b == b') with
 | false => simp [Result.andThen_ok]
 | true =>
 simp only [Bool.not_true, Bool.false_eq_true, if_false, Sem.run_pure, Sem.run_bind, Result.andThen_ok, hp _ 2 (by decide) c rfl, hq _ 2 (by decide) c' rfl, hi]
 cases h3 : (c == c') with
 | false => simp [Result.andThen_ok]
 | true =>
 simp only [Bool.not_true, Bool.false_eq_true, if_false, Sem.run_pure, Sem.run_bind, Result.andThen_ok, hp _ 3 (by decide) d rfl, hq _ 3 (by decide) d' rfl, hi]
 cases h4 : (d == d') with
 | false => simp [Result.andThen_ok]
 | true =>
 simp only [Bool.not_true, Bool.false_eq_true, if_false, Sem.run_pure, Sem.run_bind, Result.andThen_ok, hp _ 4 (by decide) e rfl, hq _ 4 (by decide) e' rfl, hi]
 cases h5 : (e == e') with
 | false => simp [Result.andThen_ok]
 | true => simp [Result.andThen_ok]
theorem same_p (key key' : ByteArray) (v v' : Value) (l l' : List Ve) (w : World) (h : VsAt w v l) (h' : VsAt w v' l') (hn : l.length ≤ 1000000) (hn' : l'.length ≤ 1000000) (R : Bool) (hR : R = true ↔ (key = key' ∧ l = l')) :
  Calls Tryz.prog 61 #[.agg #[.string key, v], .agg #[.string key', v']] w fun e w' => e = .returned (.bool R) ∧ Below w.heap.size w w' := by
 obtain ⟨ad, cap, rfl, _⟩ := h.shape
 obtain ⟨ad', cap', rfl, _⟩ := h'.shape
 have hb : Below w.heap.size w ((w.alloc (.cells #[.string key, .slice ad l.length cap] 45)).alloc (.cells #[.string key', .slice ad' l'.length cap'] 45)) := ((Below.refl _ w).alloc (Nat.le_refl _) _).alloc (by simp) _
 have HB := Lib.hid hb
 have h1 : EC ((w.alloc (.cells #[.string key, .slice ad l.length cap] 45)).alloc (.cells #[.string key', .slice ad' l'.length cap'] 45)) w.heap.size key (.slice ad l.length cap) := (EC.new w key ad l.length cap _).alloc _
 have h2 : EC ((w.alloc (.cells #[.string key, .slice ad l.length cap] 45)).alloc (.cells #[.string key', .slice ad' l'.length cap'] 45)) (w.heap.size + 1) key' (.slice ad' l'.length cap') := by
  have := EC.new (w.alloc (.cells #[.string key, .slice ad l.length cap] 45)) key' ad' l'.length cap' 45
  simpa using this
 obtain ⟨⟨c0, c1⟩, _⟩ := h1
 obtain ⟨⟨d0, d1⟩, _⟩ := h2
 have HV := Lib.hid (fun (Q : Bool) (hQ : Q = true ↔ l = l') => vequal_p _ _ l l' _ (h.below hb) (h'.below hb) hn hn' Q hQ)
 clear h h' hb
 by_cases hk : key = key'
 case neg =>
  obtain rfl : R = false := by
   cases R with
   | false => rfl
   | true => exact absurd (hR.1 rfl).1 hk
  have hkn : ¬ key.toList = key'.toList := fun e => hk (ba_toList_inj e)
  clear hk
  go_enter Tryz.func61, Tryz.ntmps61
  go_wp2_with fail
  go_ret
  exact ⟨rfl, HB.out⟩
 case pos =>
  subst hk
  have HQ := Lib.hid (HV.out R (by rw [hR]; simp))
  clear hR
  go_enter Tryz.func61, Tryz.ntmps61
  go_wp2_with fail
  refine HQ.out.mono ?_
  rintro _ w1 ⟨rfl, hb1⟩
  go_wp2_with fail
  go_ret
  exact ⟨rfl, HB.out.trans (hb1.mono HB.out.size)⟩
theorem En.ext {x y : En} (h1 : x.key = y.key) (h2 : x.vs = y.vs) : x = y := by
 obtain ⟨a, b⟩ := x
 obtain ⟨c, d⟩ := y
 simp only at h1 h2
 rw [h1, h2]
theorem eequal_p (v v' : Value) (l l' : List En) (w : World) (h : EsAt w v l) (h' : EsAt w v' l') (hn : l.length ≤ 1000000) (hn' : l'.length ≤ 1000000) (hv : ∀ e ∈ l, e.vs.length ≤ 1000000) (hv' : ∀ e ∈ l', e.vs.length ≤ 1000000) (R : Bool) (hR : R = true ↔ l = l') :
  Calls Tryz.prog 60 #[v, v', .func (.func 61) #[] #[]] w fun e w' => e = .returned (.bool R) ∧ Below w.heap.size w w' := by
 have eg : ∀ args w, (callFunc 61 args).run Tryz.prog w = .ok (.enter 61 args) w := enters_of Tryz.func61 (by kernel_rfl) rfl
 obtain ⟨ad, cap, rfl, _⟩ := h.shape
 obtain ⟨ad', cap', rfl, _⟩ := h'.shape
 have HV := Lib.hid (And.intro h h')
 have HN := Lib.hid (And.intro hv hv')
 have HR := Lib.hid hR
 clear h h' hR hv hv'
 by_cases hl : l.length = l'.length
 case neg =>
  obtain rfl : R = false := by
   cases R with
   | false => rfl
   | true => exact absurd (by rw [HR.out.1 rfl]) hl
  have hlz : ((l.length : Int) != (l'.length : Int)) = true := by rw [bne_iff_ne]; omega
  have hlz2 : ¬ (l.length : Int) = (l'.length : Int) := by omega
  clear hl
  go_enter Tryz.func60, Tryz.ntmps60
  go_wp2_with fail
  go_ret
  exact ⟨rfl, Below.refl _ _⟩
 case pos =>
  have HLL := Lib.hid hl
  rw [← hl] at HV
  rw [← hl]
  clear hl
  go_enter Tryz.func60, Tryz.ntmps60
  go_wp2_with fail
  go_loopg [7, 8, 9, 17] l.length (fun gg _ _ _ s17 wr => ∃ k : Nat, k ≤ l.length ∧ l.length - k ≤ gg ∧ s17 = .int .i64 k ∧ Hid (Below w.heap.size w wr) ∧ Hid (∀ j, j < k → l[j]? = l'[j]?))
  case atStart => exact ⟨0, Nat.zero_le _, by omega, rfl, Lib.hid (Below.refl _ _), Lib.hid (fun j hj => absurd hj (Nat.not_lt_zero _))⟩
  case round =>
   obtain ⟨k, hk, hg, rfl, HBW, A⟩ := hrel
   by_cases hlt : k < l.length
   ·have hltz : (k : Int) < (l.length : Int) := by omega
    obtain ⟨x, hx⟩ : ∃ x, l[k]? = some x := ⟨_, List.getElem?_eq_getElem hlt⟩
    obtain ⟨y, hy⟩ : ∃ y, l'[k]? = some y := ⟨_, List.getElem?_eq_getElem (by have := HLL.out; omega)⟩
    have hmx := HN.out.1 x (List.mem_of_getElem? hx)
    have hmy := HN.out.2 y (List.mem_of_getElem? hy)
    obtain ⟨g, o, a, m, rfl, x0, x1, hgx, hvx⟩ := (HV.out.1.below HBW.out).get hx
    obtain ⟨g', o', a', m', rfl, y0, y1, hgy, hvy⟩ := (HV.out.2.below HBW.out).get hy
    have HX := Lib.hid (And.intro hx hy)
    have hne : ¬ g = wr.heap.size := by omega
    have hne' : ¬ g' = wr.heap.size := by omega
    have hba : Below wr.heap.size wr ((wr.alloc (.cells #[.string x.key, .slice a x.vs.length m] 45)).alloc (.cells #[.string y.key, .slice a' y.vs.length m'] 45)) := ((Below.refl _ wr).alloc (Nat.le_refl _) _).alloc (by simp) _
    have HS := Lib.hid (fun (Q : Bool) (hQ : Q = true ↔ (x.key = y.key ∧ x.vs = y.vs)) => same_p x.key y.key _ _ x.vs y.vs _ (hvx.below hba) (hvy.below hba) hmx hmy Q hQ)
    have HBA : Hid (Below w.heap.size w ((wr.alloc (.cells #[.string x.key, .slice a x.vs.length m] 45)).alloc (.cells #[.string y.key, .slice a' y.vs.length m'] 45))) := Lib.hid (HBW.out.trans (hba.mono HBW.out.size))
    clear hx hy hgx hgy hvx hvy hba hmx hmy
    by_cases hq : x = y
    ·have HT := Lib.hid (HS.out true (by subst hq; simp))
     have HNx : Hid (∀ j, j < k + 1 → l[j]? = l'[j]?) := Lib.hid (fun j hj => by
      by_cases e : j = k
      ·subst e
       rw [HX.out.1, HX.out.2, hq]
      ·exact A.out j (by omega))
     clear hq HS
     have y0' := Lib.cell?_alloc_some (.cells #[.string x.key, .slice a x.vs.length m] 45) y0
     have y1' := Lib.cell?_alloc_some (.cells #[.string x.key, .slice a x.vs.length m] 45) y1
     clear y0 y1
     go_wp2_with fail
     refine HT.out.mono ?_
     rintro _ w2 ⟨rfl, hb2⟩
     have HB2 := Lib.hid (HBA.out.trans (hb2.mono HBA.out.size))
     clear hb2
     go_wp2_with fail
     go_roundg (l.length - (k + 1))
     case measure => omega
     case rel => exact ⟨k + 1, by omega, by omega, by go_num, HB2, HNx⟩
    ·obtain rfl : R = false := by
      cases R with
      | false => rfl
      | true =>
       exfalso
       have := HR.out.1 rfl
       subst this
       have h2 := HX.out
       rw [h2.1] at h2
       exact hq (Option.some.inj h2.2)
     have HT := Lib.hid (HS.out false (by
      constructor
      ·intro e; cases e
      ·exact fun e => absurd (En.ext e.1 e.2) hq))
     clear hq HS HX A
     have y0' := Lib.cell?_alloc_some (.cells #[.string x.key, .slice a x.vs.length m] 45) y0
     have y1' := Lib.cell?_alloc_some (.cells #[.string x.key, .slice a x.vs.length m] 45) y1
     clear y0 y1
     go_wp2_with fail
     refine HT.out.mono ?_
     rintro _ w2 ⟨rfl, hb2⟩
     have HB2 := Lib.hid (HBA.out.trans (hb2.mono HBA.out.size))
     clear hb2
     go_wp2_with fail
     go_ret
     exact ⟨rfl, HB2.out⟩
   ·have hltz : ¬ (k : Int) < (l.length : Int) := by omega
    obtain rfl : R = true := HR.out.2 (List.ext_getElem? fun j => by
     by_cases hj : j < k
     ·exact A.out j hj
     ·rw [List.getElem?_eq_none (by omega), List.getElem?_eq_none (by have := HLL.out; omega)])
    go_wp2_with fail
    go_ret
    exact ⟨rfl, HBW.out⟩
theorem Bk.same {a b : Bk} (h1 : a.seq = b.seq) (h2 : a.l = b.l) (h3 : a.ms = b.ms) (l1 : a.l1 = b.l1) (l2 : a.l2 = b.l2) (l3 : a.l3 = b.l3) (l4 : a.l4 = b.l4) (l5 : a.l5 = b.l5) : a = b := by
 obtain ⟨_, _, _, _, _, _, _, _⟩ := a
 obtain ⟨_, _, _, _, _, _, _, _⟩ := b
 simp only at *
 subst h1 h2 h3 l1 l2 l3 l4 l5
 rfl
theorem beq_p (s t : Bk) (u v u' v' : Value) (w : World) (h : BAt w s u v) (h' : BAt w t u' v') (R : Bool) (hR : R = true ↔ s = t) :
  Calls Tryz.prog 28 #[bagg s u v, bagg t u' v'] w fun e w' => e = .returned (.bool R) ∧ Below w.heap.size w w' := by
 obtain ⟨ad, cap, rfl, _⟩ := h.es.shape
 obtain ⟨ad', cap', rfl, _⟩ := h.ms.shape
 obtain ⟨bd, dap, rfl, _⟩ := h'.es.shape
 obtain ⟨bd', dap', rfl, _⟩ := h'.ms.shape
 have HM := Lib.hid (fun W (hW : Below w.heap.size w W) (Q : Bool) (hQ : Q = true ↔ s.ms = t.ms) => mequal_p _ _ s.ms t.ms W (h.ms.below hW) (h'.ms.below hW) h.shortM h'.shortM Q hQ)
 have HE := Lib.hid (fun W (hW : Below w.heap.size w W) (Q : Bool) (hQ : Q = true ↔ s.l = t.l) => eequal_p _ _ s.l t.l W (h.es.below hW) (h'.es.below hW) h.short h'.short h.shortV h'.shortV Q hQ)
 have HC := Lib.hid ((BC.new w s (.slice ad s.l.length cap) (.slice ad' s.ms.length cap')).below ((Below.refl _ _).alloc (Nat.le_refl _) (.cells (bcells t (.slice bd t.l.length dap) (.slice bd' t.ms.length dap')) 27)))
 have HD : Hid (BC ((w.alloc (.cells (bcells s (.slice ad s.l.length cap) (.slice ad' s.ms.length cap')) 27)).alloc (.cells (bcells t (.slice bd t.l.length dap) (.slice bd' t.ms.length dap')) 27)) (w.heap.size + 1) t (.slice bd t.l.length dap) (.slice bd' t.ms.length dap')) := Lib.hid (by
  have := BC.new (w.alloc (.cells (bcells s (.slice ad s.l.length cap) (.slice ad' s.ms.length cap')) 27)) t (.slice bd t.l.length dap) (.slice bd' t.ms.length dap')
  simpa using this)
 have HB : Hid (Below w.heap.size w ((w.alloc (.cells (bcells s (.slice ad s.l.length cap) (.slice ad' s.ms.length cap')) 27)).alloc (.cells (bcells t (.slice bd t.l.length dap) (.slice bd' t.ms.length dap')) 27))) := Lib.hid (((Below.refl _ w).alloc (Nat.le_refl _) _).alloc (by simp) _)
 clear h h'
 have HR := Lib.hid hR
 clear hR
 obtain ⟨q0, q1, q2, q3, q4, q5, q6, q7⟩ := HC.out.cells
 obtain ⟨r0, r1, r2, r3, r4, r5, r6, r7⟩ := HD.out.cells
 have no : s ≠ t → R = false := fun hne => by
  cases R with
  | false => rfl
  | true => exact absurd (HR.out.1 rfl) hne
 have NO := Lib.hid no
 clear no
 have qeq : ∀ w, (Op.equalIn 10000 25 (.agg #[.int .i64 s.l1, .int .i64 s.l2, .int .i64 s.l3, .int .i64 s.l4, .int .i64 s.l5]) (.agg #[.int .i64 t.l1, .int .i64 t.l2, .int .i64 t.l3, .int .i64 t.l4, .int .i64 t.l5])).run Tryz.prog w = .ok (s.l1 == t.l1 && s.l2 == t.l2 && s.l3 == t.l3 && s.l4 == t.l4 && s.l5 == t.l5) w := fun w => eq5' 9998 s.l1 s.l2 s.l3 s.l4 s.l5 t.l1 t.l2 t.l3 t.l4 t.l5 w
 unfold bagg
 unfold bcells at *
 go_enter Tryz.func28, Tryz.ntmps28
 by_cases c0 : s.seq = t.seq
 case neg =>
  obtain rfl := NO.out (fun e => c0 (by rw [e]))
  have qv : (s.seq == t.seq) = false := by rw [beq_eq_false_iff_ne]; exact c0
  clear c0
  go_wp2_with fail
  go_ret
  exact ⟨rfl, HB.out⟩
 case pos =>
 have qc0 : (s.seq == t.seq) = true := by rw [beq_iff_eq]; exact c0
 have Hc0 := Lib.hid c0
 clear c0
 by_cases c1 : s.l1 = t.l1
 case neg =>
  obtain rfl := NO.out (fun e => c1 (by rw [e]))
  have qv : (s.l1 == t.l1) = false := by rw [beq_eq_false_iff_ne]; exact c1
  clear c1
  go_wp2_with fail
  go_ret
  exact ⟨rfl, HB.out⟩
 case pos =>
 have qc1 : (s.l1 == t.l1) = true := by rw [beq_iff_eq]; exact c1
 have Hc1 := Lib.hid c1
 clear c1
 by_cases c2 : s.l2 = t.l2
 case neg =>
  obtain rfl := NO.out (fun e => c2 (by rw [e]))
  have qv : (s.l2 == t.l2) = false := by rw [beq_eq_false_iff_ne]; exact c2
  clear c2
  go_wp2_with fail
  go_ret
  exact ⟨rfl, HB.out⟩
 case pos =>
 have qc2 : (s.l2 == t.l2) = true := by rw [beq_iff_eq]; exact c2
 have Hc2 := Lib.hid c2
 clear c2
 by_cases c3 : s.l3 = t.l3
 case neg =>
  obtain rfl := NO.out (fun e => c3 (by rw [e]))
  have qv : (s.l3 == t.l3) = false := by rw [beq_eq_false_iff_ne]; exact c3
  clear c3
  go_wp2_with fail
  go_ret
  exact ⟨rfl, HB.out⟩
 case pos =>
 have qc3 : (s.l3 == t.l3) = true := by rw [beq_iff_eq]; exact c3
 have Hc3 := Lib.hid c3
 clear c3
 by_cases c4 : s.l4 = t.l4
 case neg =>
  obtain rfl := NO.out (fun e => c4 (by rw [e]))
  have qv : (s.l4 == t.l4) = false := by rw [beq_eq_false_iff_ne]; exact c4
  clear c4
  go_wp2_with fail
  go_ret
  exact ⟨rfl, HB.out⟩
 case pos =>
 have qc4 : (s.l4 == t.l4) = true := by rw [beq_iff_eq]; exact c4
 have Hc4 := Lib.hid c4
 clear c4
 by_cases c5 : s.l5 = t.l5
 case neg =>
  obtain rfl := NO.out (fun e => c5 (by rw [e]))
  have qv : (s.l5 == t.l5) = false := by rw [beq_eq_false_iff_ne]; exact c5
  clear c5
  go_wp2_with fail
  go_ret
  exact ⟨rfl, HB.out⟩
 case pos =>
 have qc5 : (s.l5 == t.l5) = true := by rw [beq_iff_eq]; exact c5
 have Hc5 := Lib.hid c5
 clear c5
 by_cases hm : s.ms = t.ms
 case neg =>
  obtain rfl := NO.out (fun e => hm (by rw [e]))
  go_wp2_with fail
  refine (HM.out _ HB.out false (by simp [hm])).mono ?_
  rintro _ w1 ⟨rfl, hb1⟩
  have HB1 := Lib.hid (HB.out.trans (hb1.mono HB.out.size))
  clear hb1 hm q0 q1 q2 q3 q4 q5 q6 q7 r0 r1 r2 r3 r4 r5 r6 r7
  go_wp2_with fail
  go_ret
  exact ⟨rfl, HB1.out⟩
 case pos =>
 have Hm := Lib.hid hm
 clear hm
 go_wp2_with fail
 refine (HM.out _ HB.out true (by simp [Hm.out])).mono ?_
 rintro _ w1 ⟨rfl, hb1⟩
 have HB1 := Lib.hid (HB.out.trans (hb1.mono HB.out.size))
 have HC1 := Lib.hid (HC.out.below hb1)
 have HD1 := Lib.hid (HD.out.below hb1)
 clear hb1 q0 q1 q2 q3 q4 q5 q6 q7 r0 r1 r2 r3 r4 r5 r6 r7
 have q1 := HC1.out.cells.2.1
 have r1 := HD1.out.cells.2.1
 have HQ := Lib.hid (HE.out w1 HB1.out R (by
  rw [HR.out]
  exact ⟨fun e => by rw [e], fun e => Bk.same Hc0.out e Hm.out Hc1.out Hc2.out Hc3.out Hc4.out Hc5.out⟩))
 go_wp2_with fail
 refine HQ.out.mono ?_
 rintro _ w2 ⟨rfl, hb2⟩
 go_wp2_with fail
 go_ret
 exact ⟨rfl, HB1.out.trans (hb2.mono HB1.out.size)⟩
end Go.Proofs.YtlpgphiccjkenaaGreatDoor
