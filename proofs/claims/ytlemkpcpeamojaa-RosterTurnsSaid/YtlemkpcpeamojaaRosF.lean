/-
  The contracts of roster's Eq and of the reference's Spot, EqRoster, Side, MayRoster.
-/
import Derived.Test.YtlemkpcpeamojaaRosD
namespace Go.Proofs.Ytlemkpcpeamojaa
open Go.RowKit

def eqR (a b : Ro) : Bool := decide (a.ep = b.ep) && (decide (a.nw = b.nw) && decide (a.l = b.l))

theorem two_boxes (w : World) (e nw e' nw' : Int) (ad ad' : Option Addr) (m m' c c' : Nat) (t : TypeId) :
    RC ((w.alloc (.cells #[.int .i64 e, .slice ad m c, .int .i64 nw] t)).alloc (.cells #[.int .i64 e', .slice ad' m' c', .int .i64 nw'] t)) w.heap.size e (.slice ad m c) nw ∧
    RC ((w.alloc (.cells #[.int .i64 e, .slice ad m c, .int .i64 nw] t)).alloc (.cells #[.int .i64 e', .slice ad' m' c', .int .i64 nw'] t)) (w.heap.size + 1) e' (.slice ad' m' c') nw' ∧
    Below w.heap.size w ((w.alloc (.cells #[.int .i64 e, .slice ad m c, .int .i64 nw] t)).alloc (.cells #[.int .i64 e', .slice ad' m' c', .int .i64 nw'] t)) := by
  refine ⟨(RC.new w e ad m c nw t).alloc _, ?_, ((Below.refl _ w).alloc (Nat.le_refl _) _).alloc (by simp) _⟩
  have := RC.new (w.alloc (.cells #[.int .i64 e, .slice ad m c, .int .i64 nw] t)) e' ad' m' c' nw' t
  simpa using this

set_option maxRecDepth 100000 in
set_option maxHeartbeats 4000000 in
theorem eq_p (e nw e' nw' : Int) (v v' : Value) (l l' : List Int) (w : World) (h : IsAt w v l) (h' : IsAt w v' l') (hn : l.length ≤ 1000) (hn' : l'.length ≤ 1000) :
    Calls Try.prog 20 #[.agg #[.int .i64 e, v, .int .i64 nw], .agg #[.int .i64 e', v', .int .i64 nw']] w fun r w' => r = .returned (.bool (eqR ⟨e, l, nw⟩ ⟨e', l', nw'⟩)) ∧ Below w.heap.size w w' := by
  obtain ⟨ad, cap, rfl, _⟩ := h.shape
  obtain ⟨ad', cap', rfl, _⟩ := h'.shape
  obtain ⟨h1, h2, hb⟩ := two_boxes w e nw e' nw' ad ad' l.length l'.length cap cap' 24
  have HB := Lib.hid hb
  have HV := Lib.hid (And.intro (h.below hb) (h'.below hb))
  obtain ⟨R, hR⟩ : ∃ R, eqR ⟨e, l, nw⟩ ⟨e', l', nw'⟩ = R := ⟨_, rfl⟩
  rw [hR]
  unfold eqR at hR
  dsimp only at hR
  have HE := Lib.hid (equal_p _ _ l l' _ HV.out.1 HV.out.2 (by omega) (by omega))
  clear h h' hb
  by_cases he : e = e'
  case neg =>
    have heb : (e == e') = false := by rw [beq_eq_false_iff_ne]; exact he
    rw [decide_eq_false he, Bool.false_and] at hR
    subst hR
    clear he
    go_enter Try.func20, Try.ntmps20
    go_wp2_with fail
    go_ret
    exact ⟨rfl, HB.out⟩
  subst he
  rw [decide_eq_true rfl, Bool.true_and] at hR
  by_cases he : nw = nw'
  case neg =>
    have heb : (nw == nw') = false := by rw [beq_eq_false_iff_ne]; exact he
    rw [decide_eq_false he, Bool.false_and] at hR
    subst hR
    clear he
    go_enter Try.func20, Try.ntmps20
    go_wp2_with fail
    go_ret
    exact ⟨rfl, HB.out⟩
  subst he
  rw [decide_eq_true rfl, Bool.true_and] at hR
  subst hR
  generalize decide (l = l') = R at *
  clear HV h1 h2
  go_enter Try.func20, Try.ntmps20
  go_wp2_with fail
  generalize ((w.alloc (.cells #[.int .i64 e, .slice ad l.length cap, .int .i64 nw] 24)).alloc (.cells #[.int .i64 e, .slice ad' l'.length cap', .int .i64 nw] 24)) = W at *
  refine HE.out.mono ?_
  rintro _ w2 ⟨rfl, hb2⟩
  have HB2 := Lib.hid (HB.out.trans (hb2.mono HB.out.size))
  clear hb2
  go_wp2_with fail
  go_ret
  exact ⟨rfl, HB2.out⟩

set_option maxRecDepth 100000 in
set_option maxHeartbeats 4000000 in
theorem reqr_p (e nw e' nw' : Int) (v v' : Value) (l l' : List Int) (w : World) (h : IsAt w v l) (h' : IsAt w v' l') (hn : l.length ≤ 1000) (hn' : l'.length ≤ 1000) :
    Calls Try.prog 19 #[.agg #[.int .i64 e, v, .int .i64 nw], .agg #[.int .i64 e', v', .int .i64 nw']] w fun r w' => r = .returned (.bool (eqR ⟨e, l, nw⟩ ⟨e', l', nw'⟩)) ∧ Below w.heap.size w w' := by
  obtain ⟨ad, cap, rfl, _⟩ := h.shape
  obtain ⟨ad', cap', rfl, _⟩ := h'.shape
  obtain ⟨h1, h2, hb⟩ := two_boxes w e nw e' nw' ad ad' l.length l'.length cap cap' 24
  have HB := Lib.hid hb
  have HV := Lib.hid (And.intro (h.below hb) (h'.below hb))
  obtain ⟨R, hR⟩ : ∃ R, eqR ⟨e, l, nw⟩ ⟨e', l', nw'⟩ = R := ⟨_, rfl⟩
  rw [hR]
  unfold eqR at hR
  dsimp only at hR
  clear h h' hb
  by_cases he : e = e'
  case neg =>
    have heb2 : (e != e') = true := by rw [bne_iff_ne]; exact he
    have heb : (e == e') = false := by rw [beq_eq_false_iff_ne]; exact he
    rw [decide_eq_false he, Bool.false_and] at hR
    subst hR
    clear he
    go_enter Try.func19, Try.ntmps19
    go_wp2_with fail
    go_ret
    exact ⟨rfl, HB.out⟩
  subst he
  rw [decide_eq_true rfl, Bool.true_and] at hR
  by_cases he : nw = nw'
  case neg =>
    have heb2 : (nw != nw') = true := by rw [bne_iff_ne]; exact he
    have heb : (nw == nw') = false := by rw [beq_eq_false_iff_ne]; exact he
    rw [decide_eq_false he, Bool.false_and] at hR
    subst hR
    clear he
    go_enter Try.func19, Try.ntmps19
    go_wp2_with fail
    go_ret
    exact ⟨rfl, HB.out⟩
  subst he
  rw [decide_eq_true rfl, Bool.true_and] at hR
  have HR := Lib.hid hR
  clear hR
  by_cases hl : l.length = l'.length
  case neg =>
    obtain rfl : R = false := by
      rw [← HR.out]
      exact decide_eq_false (fun e => hl (by rw [e]))
    have hlz : ((l.length : Int) == (l'.length : Int)) = false := by rw [beq_eq_false_iff_ne]; omega
    have hlz2 : ¬ (l.length : Int) = (l'.length : Int) := by omega
    clear hl
    go_enter Try.func19, Try.ntmps19
    go_wp2_with fail
    go_ret
    exact ⟨rfl, HB.out⟩
  have HLL := Lib.hid hl
  rw [← hl] at h1 h2 HB HV
  rw [← hl]
  clear hl
  go_enter Try.func19, Try.ntmps19
  go_wp2_with fail
  generalize ((w.alloc (.cells #[.int .i64 e, .slice ad l.length cap, .int .i64 nw] 24)).alloc (.cells #[.int .i64 e, .slice ad' l.length cap', .int .i64 nw] 24)) = W at *
  obtain ⟨⟨c0, c1, c2⟩, _⟩ := h1
  obtain ⟨⟨d0, d1, d2⟩, _⟩ := h2
  go_loopw [5] (fun i wr => ∃ k : Nat, k ≤ l.length ∧ i = .int .i64 k ∧ wr.cell? ⟨w.heap.size, 1, none⟩ = some (.slice ad l.length cap) ∧ wr.cell? ⟨w.heap.size + 1, 1, none⟩ = some (.slice ad' l.length cap') ∧ Hid (IsAt wr (.slice ad l.length cap) l) ∧ Hid (IsAt wr (.slice ad' l.length cap') l') ∧ Hid (Below w.heap.size w wr) ∧ Hid (∀ j, j < k → l[j]? = l'[j]?)) (fun i _ => l.length - (intOf i).toNat)
  case atStart => exact ⟨0, Nat.zero_le _, rfl, c1, d1, Lib.hid HV.out.1, Lib.hid HV.out.2, HB, Lib.hid (fun j hj => absurd hj (Nat.not_lt_zero _))⟩
  case round =>
    obtain ⟨k, hk, rfl, c1, d1, HV1, HV2, HBW, A⟩ := hrel
    by_cases hlt : k < l.length
    · have hltz : (k : Int) < (l.length : Int) := by omega
      obtain ⟨x, hx⟩ : ∃ x, l[k]? = some x := ⟨_, List.getElem?_eq_getElem hlt⟩
      obtain ⟨y, hy⟩ : ∃ y, l'[k]? = some y := ⟨_, List.getElem?_eq_getElem (by have := HLL.out; omega)⟩
      obtain ⟨g, o, rfl, x0⟩ := HV1.out.get hx
      obtain ⟨g', o', rfl, y0⟩ := HV2.out.get hy
      by_cases hq : x = y
      · have HN : Hid (∀ j, j < k + 1 → l[j]? = l'[j]?) := Lib.hid (fun j hj => by
          by_cases e : j = k
          · subst e
            rw [hx, hy, hq]
          · exact A.out j (by omega))
        subst hq
        clear hx hy
        go_wp2_with fail
        go_region
        all_goals
          go_wp2_with fail
          go_roundw
          case rel => exact ⟨k + 1, by omega, by go_num, by assumption, by assumption, Lib.hid (HV1.out.kept (Nat.le_refl _) (fun _ _ => rfl)), Lib.hid (HV2.out.kept (Nat.le_refl _) (fun _ _ => rfl)), Lib.hid HBW.out.drew, HN⟩
          case measure => simp [intOf]; omega
      · have hqb : (x == y) = false := by rw [beq_eq_false_iff_ne]; exact hq
        obtain rfl : R = false := by
          rw [← HR.out]
          refine decide_eq_false (fun e => ?_)
          subst e
          rw [hx] at hy
          exact hq (Option.some.inj hy)
        clear hx hy hq
        go_wp2_with fail
        go_region
        all_goals
          go_wp2_with fail
          go_ret
          exact ⟨rfl, HBW.out.drew⟩
    · have hltz : ¬ (k : Int) < (l.length : Int) := by omega
      obtain rfl : R = true := by
        rw [← HR.out]
        exact decide_eq_true (List.ext_getElem? fun j => by
          by_cases hj : j < k
          · exact A.out j hj
          · rw [List.getElem?_eq_none (by omega), List.getElem?_eq_none (by have := HLL.out; omega)])
      go_wp2_with fail
      go_ret
      exact ⟨rfl, HBW.out⟩

set_option maxRecDepth 100000 in
set_option maxHeartbeats 4000000 in
theorem spot_p (e nw n : Int) (v : Value) (l : List Int) (w : World) (h : IsAt w v l) (hn : l.length ≤ 1000) :
    Calls Try.prog 18 #[.agg #[.int .i64 e, v, .int .i64 nw], .int .i64 n] w fun r w' => r = .returned (.int .i64 (ixI l n)) ∧ Below w.heap.size w w' := by
  obtain ⟨ad, cap, rfl, _⟩ := h.shape
  have HB := Lib.hid (ro_below w e (.slice ad l.length cap) nw 24)
  have h1 := RC.new w e ad l.length cap nw 24
  have HV := Lib.hid (h.below HB.out)
  obtain ⟨R, hR⟩ : ∃ R, ixI l n = R := ⟨_, rfl⟩
  rw [hR]
  have HR := Lib.hid hR
  clear hR h
  go_enter Try.func18, Try.ntmps18
  go_wp2_with fail
  generalize (w.alloc (.cells #[.int .i64 e, .slice ad l.length cap, .int .i64 nw] 24)) = W at *
  obtain ⟨⟨c0, c1, c2⟩, _⟩ := h1
  go_loopw [5] (fun i wr => ∃ k : Nat, k ≤ l.length ∧ i = .int .i64 k ∧ wr = W ∧ Hid (∀ j y, j < k → l[j]? = some y → y ≠ n)) (fun i _ => l.length - (intOf i).toNat)
  case atStart => exact ⟨0, Nat.zero_le _, rfl, rfl, Lib.hid (fun j y hj => absurd hj (Nat.not_lt_zero _))⟩
  case round =>
    obtain ⟨k, hk, rfl, rfl, A⟩ := hrel
    by_cases hlt : k < l.length
    · have hltz : (k : Int) < (l.length : Int) := by omega
      obtain ⟨x, hx⟩ : ∃ x, l[k]? = some x := ⟨_, List.getElem?_eq_getElem hlt⟩
      obtain ⟨g, o, rfl, x0⟩ := HV.out.get hx
      by_cases hq : x = n
      · subst hq
        obtain rfl : R = (k : Int) := by
          rw [← HR.out]; unfold ixI; rw [ixN_hit hx rfl A.out]
        clear hx
        go_wp2_with fail
        go_ret
        exact ⟨rfl, HB.out⟩
      · have hqb : (x == n) = false := by rw [beq_eq_false_iff_ne]; exact hq
        have HN : Hid (∀ j y, j < k + 1 → l[j]? = some y → y ≠ n) := Lib.hid (fun j y hj hy => by
          by_cases e : j = k
          · subst e
            rw [hx] at hy
            cases hy
            exact hq
          · exact A.out j y (by omega) hy)
        clear hx hq
        go_wp2_with fail
        go_roundw
        case rel => exact ⟨k + 1, by omega, by go_num, by first | rfl | trivial, HN⟩
        case measure => simp [intOf]; omega
    · have hltz : ¬ (k : Int) < (l.length : Int) := by omega
      obtain rfl : R = -1 := by
        rw [← HR.out]; unfold ixI; rw [ixN_miss (fun j y hj => A.out j y (by omega))]
      go_wp2_with fail
      go_ret
      exact ⟨rfl, HB.out⟩

def sideI (l : List Int) (n by' : Int) : Int := if ixI l n < 0 then 0 else getI l (ixI l n + by')

theorem side_next (l : List Int) (n : Int) : sideI l n 1 = nextI l n := rfl

theorem side_ahead (l : List Int) (n : Int) : sideI l n (-1) = aheadI l n := by
  unfold sideI aheadI
  split
  · unfold getI
    rw [if_neg (by omega)]
  · rfl

set_option maxRecDepth 100000 in
set_option maxHeartbeats 4000000 in
theorem side_p (e nw n by' : Int) (v : Value) (l : List Int) (w : World) (h : IsAt w v l) (hn : l.length ≤ 1000) (hby : -10 ≤ by' ∧ by' ≤ 10) :
    Calls Try.prog 24 #[.agg #[.int .i64 e, v, .int .i64 nw], .int .i64 n, .int .i64 by'] w fun r w' => r = .returned (.int .i64 (sideI l n by')) ∧ Below w.heap.size w w' := by
  obtain ⟨ad, cap, rfl, _⟩ := h.shape
  have HB := Lib.hid (ro_below w e (.slice ad l.length cap) nw 24)
  have h1 := RC.new w e ad l.length cap nw 24
  have HV := Lib.hid (h.below HB.out)
  have HS := Lib.hid (spot_p e nw n _ l _ HV.out hn)
  obtain ⟨R, hR⟩ : ∃ R, sideI l n by' = R := ⟨_, rfl⟩
  rw [hR]
  unfold sideI at hR
  have hlt := ixI_lt l n
  generalize ixI l n = p at *
  have hw : IntKind.i64.wrap (p + by') = p + by' := IntWalk.i64_in _ (by omega)
  clear h
  by_cases hp : p < 0
  · rw [if_pos hp] at hR
    subst hR
    clear hlt
    go_enter Try.func24, Try.ntmps24
    go_wp2_with fail
    refine HS.out.mono ?_
    rintro _ w2 ⟨rfl, hb2⟩
    have HB2 := Lib.hid (HB.out.trans (hb2.mono HB.out.size))
    clear hb2
    go_wp2_with fail
    go_ret
    exact ⟨rfl, HB2.out⟩
  rw [if_neg hp] at hR
  have t1 : decide (p < 0) = false := decide_eq_false hp
  unfold getI at hR
  by_cases hq : p + by' < 0
  · rw [if_neg (by omega)] at hR
    subst hR
    clear hlt
    go_enter Try.func24, Try.ntmps24
    go_wp2_with fail
    refine HS.out.mono ?_
    rintro _ w2 ⟨rfl, hb2⟩
    have HB2 := Lib.hid (HB.out.trans (hb2.mono HB.out.size))
    clear hb2
    go_wp2_with fail
    go_ret
    exact ⟨rfl, HB2.out⟩
  have t2 : decide (p + by' < 0) = false := decide_eq_false hq
  by_cases hl : (l.length : Int) ≤ p + by'
  · rw [if_neg (by omega)] at hR
    subst hR
    clear hlt
    go_enter Try.func24, Try.ntmps24
    go_wp2_with fail
    generalize (w.alloc (.cells #[.int .i64 e, .slice ad l.length cap, .int .i64 nw] 24)) = W at *
    obtain ⟨⟨c0, c1, c2⟩, _⟩ := h1
    refine HS.out.mono ?_
    rintro _ w2 ⟨rfl, hb2⟩
    have c1' : w2.cell? ⟨w.heap.size, 1, none⟩ = some (.slice ad l.length cap) := by rw [hb2.cell (World.block_lt_of_cell? W _ c1)]; exact c1
    have HB2 := Lib.hid (HB.out.trans (hb2.mono HB.out.size))
    clear hb2 c0 c1 c2
    go_wp2_with fail
    go_ret
    exact ⟨rfl, HB2.out⟩
  have t3 : decide ((l.length : Int) ≤ p + by') = false := decide_eq_false hl
  rw [if_pos (by omega)] at hR
  obtain ⟨m, hm⟩ : ∃ m : Nat, p + by' = m := ⟨(p + by').toNat, by omega⟩
  rw [hm, Int.toNat_natCast] at hR
  rw [hm] at hw t2 t3
  obtain ⟨x, hx⟩ : ∃ x, l[m]? = some x := ⟨_, List.getElem?_eq_getElem (by omega)⟩
  rw [List.getD_eq_getElem?_getD, hx, Option.getD_some] at hR
  subst hR
  have hml : m < l.length := by omega
  have hmz : (m : Int) < (l.length : Int) := by omega
  clear hlt hq hl
  go_enter Try.func24, Try.ntmps24
  go_wp2_with fail
  generalize (w.alloc (.cells #[.int .i64 e, .slice ad l.length cap, .int .i64 nw] 24)) = W at *
  obtain ⟨⟨c0, c1, c2⟩, _⟩ := h1
  refine HS.out.mono ?_
  rintro _ w2 ⟨rfl, hb2⟩
  have c1' : w2.cell? ⟨w.heap.size, 1, none⟩ = some (.slice ad l.length cap) := by rw [hb2.cell (World.block_lt_of_cell? W _ c1)]; exact c1
  have HB2 := Lib.hid (HB.out.trans (hb2.mono HB.out.size))
  obtain ⟨g, o, rfl, x0⟩ := (HV.out.below hb2).get hx
  clear hb2 c0 c1 c2 hx
  go_wp2_with fail
  go_ret
  exact ⟨rfl, HB2.out⟩

end Go.Proofs.Ytlemkpcpeamojaa
