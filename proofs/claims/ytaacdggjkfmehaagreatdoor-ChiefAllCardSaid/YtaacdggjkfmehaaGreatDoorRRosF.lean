/-
  Contracts of the program, and what they rest on.
-/
import Derived.Test.YtaacdggjkfmehaaGreatDoorM03
namespace Go.Proofs.YtaacdggjkfmehaaGreatDoor
open Go.RowKit
set_option maxRecDepth 100000 in
set_option maxHeartbeats 4000000 in
theorem reqr_p (e nw e' nw' : Int) (v v' : Value) (l l' : List Int) (w : World) (h : IsAt w v l) (h' : IsAt w v' l') (hn : l.length ≤ 1000) (hn' : l'.length ≤ 1000) :
    Calls Tryz.prog 16 #[.agg #[.int .i64 e, v, .int .i64 nw], .agg #[.int .i64 e', v', .int .i64 nw']] w fun r w' => r = .returned (.bool (eqR ⟨e, l, nw⟩ ⟨e', l', nw'⟩)) ∧ Below w.heap.size w w' := by
  obtain ⟨ad, cap, rfl, _⟩ := h.shape
  obtain ⟨ad', cap', rfl, _⟩ := h'.shape
  obtain ⟨h1, h2, hb⟩ := two_boxes w e nw e' nw' ad ad' l.length l'.length cap cap' 24
  have HB := Lib.hid hb
  have HV := Lib.hid (And.intro (h.below hb) (h'.below hb))
  obtain ⟨R, hR⟩ : ∃ R, eqR ⟨e, l, nw⟩ ⟨e', l', nw'⟩ = R := ⟨_, rfl⟩
  rw [hR]
  unfold eqR at hR
  dsimp only at hR
  clear h h' hb
  by_cases he : e = e'
  case neg =>
    have heb2 : (e != e') = true := by rw [bne_iff_ne]; exact he
    have heb : (e == e') = false := by rw [beq_eq_false_iff_ne]; exact he
    rw [decide_eq_false he, Bool.false_and] at hR
    subst hR
    clear he
    go_enter Tryz.func16, Tryz.ntmps16
    go_wp2_with fail
    go_ret
    exact ⟨rfl, HB.out⟩
  subst he
  rw [decide_eq_true rfl, Bool.true_and] at hR
  by_cases he : nw = nw'
  case neg =>
    have heb2 : (nw != nw') = true := by rw [bne_iff_ne]; exact he
    have heb : (nw == nw') = false := by rw [beq_eq_false_iff_ne]; exact he
    rw [decide_eq_false he, Bool.false_and] at hR
    subst hR
    clear he
    go_enter Tryz.func16, Tryz.ntmps16
    go_wp2_with fail
    go_ret
    exact ⟨rfl, HB.out⟩
  subst he
  rw [decide_eq_true rfl, Bool.true_and] at hR
  have HR := Lib.hid hR
  clear hR
  by_cases hl : l.length = l'.length
  case neg =>
    obtain rfl : R = false := by
      rw [← HR.out]
      exact decide_eq_false (fun e => hl (by rw [e]))
    have hlz : ((l.length : Int) == (l'.length : Int)) = false := by rw [beq_eq_false_iff_ne]; omega
    have hlz2 : ¬ (l.length : Int) = (l'.length : Int) := by omega
    clear hl
    go_enter Tryz.func16, Tryz.ntmps16
    go_wp2_with fail
    go_ret
    exact ⟨rfl, HB.out⟩
  have HLL := Lib.hid hl
  rw [← hl] at h1 h2 HB HV
  rw [← hl]
  clear hl
  go_enter Tryz.func16, Tryz.ntmps16
  go_wp2_with fail
  generalize ((w.alloc (.cells #[.int .i64 e, .slice ad l.length cap, .int .i64 nw] 24)).alloc (.cells #[.int .i64 e, .slice ad' l.length cap', .int .i64 nw] 24)) = W at *
  obtain ⟨⟨c0, c1, c2⟩, _⟩ := h1
  obtain ⟨⟨d0, d1, d2⟩, _⟩ := h2
  go_loopw [5] (fun i wr => ∃ k : Nat, k ≤ l.length ∧ i = .int .i64 k ∧ wr.cell? ⟨w.heap.size, 1, none⟩ = some (.slice ad l.length cap) ∧ wr.cell? ⟨w.heap.size + 1, 1, none⟩ = some (.slice ad' l.length cap') ∧ Hid (IsAt wr (.slice ad l.length cap) l) ∧ Hid (IsAt wr (.slice ad' l.length cap') l') ∧ Hid (Below w.heap.size w wr) ∧ Hid (∀ j, j < k → l[j]? = l'[j]?)) (fun i _ => l.length - (intOf i).toNat)
  case atStart => exact ⟨0, Nat.zero_le _, rfl, c1, d1, Lib.hid HV.out.1, Lib.hid HV.out.2, HB, Lib.hid (fun j hj => absurd hj (Nat.not_lt_zero _))⟩
  case round =>
    obtain ⟨k, hk, rfl, c1, d1, HV1, HV2, HBW, A⟩ := hrel
    by_cases hlt : k < l.length
    · have hltz : (k : Int) < (l.length : Int) := by omega
      obtain ⟨x, hx⟩ : ∃ x, l[k]? = some x := ⟨_, List.getElem?_eq_getElem hlt⟩
      obtain ⟨y, hy⟩ : ∃ y, l'[k]? = some y := ⟨_, List.getElem?_eq_getElem (by have := HLL.out; omega)⟩
      obtain ⟨g, o, rfl, x0⟩ := HV1.out.get hx
      obtain ⟨g', o', rfl, y0⟩ := HV2.out.get hy
      by_cases hq : x = y
      · have HN : Hid (∀ j, j < k + 1 → l[j]? = l'[j]?) := Lib.hid (fun j hj => by
          by_cases e : j = k
          · subst e
            rw [hx, hy, hq]
          · exact A.out j (by omega))
        subst hq
        clear hx hy
        go_wp2_with fail
        go_region
        all_goals
          go_wp2_with fail
          go_roundw
          case rel => exact ⟨k + 1, by omega, by go_num, by assumption, by assumption, Lib.hid (HV1.out.kept (Nat.le_refl _) (fun _ _ => rfl)), Lib.hid (HV2.out.kept (Nat.le_refl _) (fun _ _ => rfl)), Lib.hid HBW.out.drew, HN⟩
          case measure => simp [intOf]; omega
      · have hqb : (x == y) = false := by rw [beq_eq_false_iff_ne]; exact hq
        obtain rfl : R = false := by
          rw [← HR.out]
          refine decide_eq_false (fun e => ?_)
          subst e
          rw [hx] at hy
          exact hq (Option.some.inj hy)
        clear hx hy hq
        go_wp2_with fail
        go_region
        all_goals
          go_wp2_with fail
          go_ret
          exact ⟨rfl, HBW.out.drew⟩
    · have hltz : ¬ (k : Int) < (l.length : Int) := by omega
      obtain rfl : R = true := by
        rw [← HR.out]
        exact decide_eq_true (List.ext_getElem? fun j => by
          by_cases hj : j < k
          · exact A.out j hj
          · rw [List.getElem?_eq_none (by omega), List.getElem?_eq_none (by have := HLL.out; omega)])
      go_wp2_with fail
      go_ret
      exact ⟨rfl, HBW.out⟩
set_option maxRecDepth 100000 in
set_option maxHeartbeats 4000000 in
theorem spot_p (e nw n : Int) (v : Value) (l : List Int) (w : World) (h : IsAt w v l) (hn : l.length ≤ 1000) :
    Calls Tryz.prog 35 #[.agg #[.int .i64 e, v, .int .i64 nw], .int .i64 n] w fun r w' => r = .returned (.int .i64 (ixI l n)) ∧ Below w.heap.size w w' := by
  obtain ⟨ad, cap, rfl, _⟩ := h.shape
  have HB := Lib.hid (ro_below w e (.slice ad l.length cap) nw 24)
  have h1 := RC.new w e ad l.length cap nw 24
  have HV := Lib.hid (h.below HB.out)
  obtain ⟨R, hR⟩ : ∃ R, ixI l n = R := ⟨_, rfl⟩
  rw [hR]
  have HR := Lib.hid hR
  clear hR h
  go_enter Tryz.func35, Tryz.ntmps35
  go_wp2_with fail
  generalize (w.alloc (.cells #[.int .i64 e, .slice ad l.length cap, .int .i64 nw] 24)) = W at *
  obtain ⟨⟨c0, c1, c2⟩, _⟩ := h1
  go_loopw [5] (fun i wr => ∃ k : Nat, k ≤ l.length ∧ i = .int .i64 k ∧ wr = W ∧ Hid (∀ j y, j < k → l[j]? = some y → y ≠ n)) (fun i _ => l.length - (intOf i).toNat)
  case atStart => exact ⟨0, Nat.zero_le _, rfl, rfl, Lib.hid (fun j y hj => absurd hj (Nat.not_lt_zero _))⟩
  case round =>
    obtain ⟨k, hk, rfl, rfl, A⟩ := hrel
    by_cases hlt : k < l.length
    · have hltz : (k : Int) < (l.length : Int) := by omega
      obtain ⟨x, hx⟩ : ∃ x, l[k]? = some x := ⟨_, List.getElem?_eq_getElem hlt⟩
      obtain ⟨g, o, rfl, x0⟩ := HV.out.get hx
      by_cases hq : x = n
      · subst hq
        obtain rfl : R = (k : Int) := by
          rw [← HR.out]; unfold ixI; rw [ixN_hit hx rfl A.out]
        clear hx
        go_wp2_with fail
        go_ret
        exact ⟨rfl, HB.out⟩
      · have hqb : (x == n) = false := by rw [beq_eq_false_iff_ne]; exact hq
        have HN : Hid (∀ j y, j < k + 1 → l[j]? = some y → y ≠ n) := Lib.hid (fun j y hj hy => by
          by_cases e : j = k
          · subst e
            rw [hx] at hy
            cases hy
            exact hq
          · exact A.out j y (by omega) hy)
        clear hx hq
        go_wp2_with fail
        go_roundw
        case rel => exact ⟨k + 1, by omega, by go_num, by first | rfl | trivial, HN⟩
        case measure => simp [intOf]; omega
    · have hltz : ¬ (k : Int) < (l.length : Int) := by omega
      obtain rfl : R = -1 := by
        rw [← HR.out]; unfold ixI; rw [ixN_miss (fun j y hj => A.out j y (by omega))]
      go_wp2_with fail
      go_ret
      exact ⟨rfl, HB.out⟩
end Go.Proofs.YtaacdggjkfmehaaGreatDoor
