/-
  The contracts of roster's Has, Head, Tail, Next, Ahead, mayNodes, mayNew, May, Eq, checked.
-/
import Derived.Test.YtmamepmfbfinlaaGreatDoorRosA
import Derived.BigQuiet
namespace Go.Proofs.YtmamepmfbfinlaaGreatDoor
open Go.RowKit

theorem IsAt.take {w : World} {ad : Option Addr} {n c : Nat} {l : List Int} (h : IsAt w (.slice ad n c) l) {k : Nat} (hk : k ≤ l.length) : IsAt w (.slice ad k c) (l.take k) := by
  rcases h with ⟨e, rfl⟩ | ⟨g, o, cap, e, h1, h2, h3, h4⟩
  · simp only [Value.slice.injEq] at e
    obtain ⟨rfl, rfl, rfl⟩ := e
    have : k = 0 := by simpa using hk
    subst this
    exact .inl ⟨rfl, rfl⟩
  · simp only [Value.slice.injEq] at e
    obtain ⟨rfl, rfl, rfl⟩ := e
    have hl : (l.take k).length = k := by simp; omega
    refine .inr ⟨g, o, c, by rw [hl], by omega, h2, h3, fun j x hx => h4 j x ?_⟩
    rw [List.getElem?_take] at hx
    split at hx
    · exact hx
    · cases hx

theorem ro_below (w : World) (e : Int) (v : Value) (n : Int) (t : TypeId) : Below w.heap.size w (w.alloc (.cells #[.int .i64 e, v, .int .i64 n] t)) := (Below.refl _ w).alloc (Nat.le_refl _) _

theorem below_drewN {n : Nat} {w W : World} (h : Below n w W) (k : Nat) : Below n w (W.drewN k) := by
  obtain ⟨h1, h2, h3, h4, h5⟩ := h
  exact ⟨h1, h2, h3, h4, h5⟩

def nextI (l : List Int) (n : Int) : Int := if ixI l n < 0 then 0 else getI l (ixI l n + 1)

def aheadI (l : List Int) (n : Int) : Int := getI l (ixI l n - 1)

theorem ln_wrap {m : Nat} (h : m ≤ 1000000) : IntKind.i64.wrap ((m : Int) - 1) = (m : Int) - 1 := IntWalk.i64_in _ (by omega)

set_option maxRecDepth 100000 in
set_option maxHeartbeats 2000000 in
theorem has_p (e nw : Int) (n : Int) (v : Value) (l : List Int) (w : World) (h : IsAt w v l) (hn : l.length ≤ 1000000) :
    Calls Tryz.prog 30 #[.agg #[.int .i64 e, v, .int .i64 nw], .int .i64 n] w fun r w' => r = .returned (.bool (hasI l n)) ∧ Below w.heap.size w w' := by
  obtain ⟨ad, cap, rfl, _⟩ := h.shape
  have HB := Lib.hid (ro_below w e (.slice ad l.length cap) nw 24)
  have h1 := RC.new w e ad l.length cap nw 24
  have HV := Lib.hid (h.below HB.out)
  have HI := Lib.hid (contains_p _ l n _ HV.out hn)
  generalize hasI l n = R at *
  clear h
  go_enter Tryz.func30, Tryz.ntmps30
  go_wp2_with fail
  generalize (w.alloc (.cells #[.int .i64 e, .slice ad l.length cap, .int .i64 nw] 24)) = W at *
  obtain ⟨⟨c0, c1, c2⟩, _⟩ := h1
  go_wp2_with fail
  refine HI.out.mono ?_
  rintro _ _ ⟨rfl, rfl⟩
  go_wp2_with fail
  go_ret
  exact ⟨rfl, HB.out⟩

set_option maxRecDepth 100000 in
set_option maxHeartbeats 2000000 in
theorem head_p (e nw : Int) (v : Value) (l : List Int) (w : World) (h : IsAt w v l) :
    Calls Tryz.prog 45 #[.agg #[.int .i64 e, v, .int .i64 nw]] w fun r w' => r = .returned (.int .i64 (getI l 0)) ∧ Below w.heap.size w w' := by
  obtain ⟨ad, cap, rfl, _⟩ := h.shape
  have HB := Lib.hid (ro_below w e (.slice ad l.length cap) nw 24)
  have h1 := RC.new w e ad l.length cap nw 24
  have HV := Lib.hid (h.below HB.out)
  have HI := Lib.hid (at_p _ l 0 _ HV.out)
  generalize getI l 0 = R at *
  clear h
  go_enter Tryz.func45, Tryz.ntmps45
  go_wp2_with fail
  generalize (w.alloc (.cells #[.int .i64 e, .slice ad l.length cap, .int .i64 nw] 24)) = W at *
  obtain ⟨⟨c0, c1, c2⟩, _⟩ := h1
  go_wp2_with fail
  refine HI.out.mono ?_
  rintro _ _ ⟨rfl, rfl⟩
  go_wp2_with fail
  go_ret
  exact ⟨rfl, HB.out⟩

set_option maxRecDepth 100000 in
set_option maxHeartbeats 2000000 in
theorem tail_p (e nw : Int) (v : Value) (l : List Int) (w : World) (h : IsAt w v l) (hn : l.length ≤ 1000000) :
    Calls Tryz.prog 46 #[.agg #[.int .i64 e, v, .int .i64 nw]] w fun r w' => r = .returned (.int .i64 (tailI l)) ∧ Below w.heap.size w w' := by
  obtain ⟨ad, cap, rfl, _⟩ := h.shape
  have HB := Lib.hid (ro_below w e (.slice ad l.length cap) nw 24)
  have h1 := RC.new w e ad l.length cap nw 24
  have HV := Lib.hid (h.below HB.out)
  have HI := Lib.hid (at_p _ l (l.length - 1) _ HV.out)
  have hw := ln_wrap hn
  unfold tailI
  generalize getI l (l.length - 1) = R at *
  clear h
  go_enter Tryz.func46, Tryz.ntmps46
  go_wp2_with fail
  generalize (w.alloc (.cells #[.int .i64 e, .slice ad l.length cap, .int .i64 nw] 24)) = W at *
  obtain ⟨⟨c0, c1, c2⟩, _⟩ := h1
  go_wp2_with fail
  refine HI.out.mono ?_
  rintro _ _ ⟨rfl, rfl⟩
  go_wp2_with fail
  go_ret
  exact ⟨rfl, HB.out⟩

set_option maxRecDepth 100000 in
set_option maxHeartbeats 2000000 in
theorem ahead_p (e nw : Int) (n : Int) (v : Value) (l : List Int) (w : World) (h : IsAt w v l) (hn : l.length ≤ 1000000) :
    Calls Tryz.prog 48 #[.agg #[.int .i64 e, v, .int .i64 nw], .int .i64 n] w fun r w' => r = .returned (.int .i64 (aheadI l n)) ∧ Below w.heap.size w w' := by
  obtain ⟨ad, cap, rfl, _⟩ := h.shape
  have HB := Lib.hid (ro_below w e (.slice ad l.length cap) nw 24)
  have h1 := RC.new w e ad l.length cap nw 24
  have HV := Lib.hid (h.below HB.out)
  have HI : Hid (∀ Y, Below w.heap.size w Y → Calls Tryz.prog 64 #[.slice ad l.length cap, .int .i64 n] Y fun e w' => e = .returned (.int .i64 (ixI l n)) ∧ w' = Y) := Lib.hid (fun Y hY => index_p _ l n Y (h.below hY) hn)
  have HJ : Hid (∀ Y, Below w.heap.size w Y → Calls Tryz.prog 67 #[.slice ad l.length cap, .int .i64 (ixI l n - 1)] Y fun e w' => e = .returned (.int .i64 (getI l (ixI l n - 1))) ∧ w' = Y) := Lib.hid (fun Y hY => at_p _ l (ixI l n - 1) Y (h.below hY))
  have hlt := ixI_lt l n
  have hw : IntKind.i64.wrap (ixI l n - 1) = ixI l n - 1 := IntWalk.i64_in _ (by omega)
  unfold aheadI
  generalize ixI l n = k at *
  generalize getI l (k - 1) = R at *
  clear hlt HV
  clear h
  go_enter Tryz.func48, Tryz.ntmps48
  go_wp2_with fail
  generalize (w.alloc (.cells #[.int .i64 e, .slice ad l.length cap, .int .i64 nw] 24)) = W at *
  obtain ⟨⟨c0, c1, c2⟩, _⟩ := h1
  go_quiet (first | (go_at_call 64; exact Calls.quiet_of_same (HI.out _ (below_drewN HB.out _))) | (go_at_call 67; exact Calls.quiet_of_same (HJ.out _ (below_drewN HB.out _))))
  go_wp2_with fail
  go_ret
  exact ⟨rfl, below_drewN HB.out nq⟩

set_option maxRecDepth 100000 in
set_option maxHeartbeats 2000000 in
theorem next_p (e nw : Int) (n : Int) (v : Value) (l : List Int) (w : World) (h : IsAt w v l) (hn : l.length ≤ 1000000) :
    Calls Tryz.prog 47 #[.agg #[.int .i64 e, v, .int .i64 nw], .int .i64 n] w fun r w' => r = .returned (.int .i64 (nextI l n)) ∧ Below w.heap.size w w' := by
  obtain ⟨ad, cap, rfl, _⟩ := h.shape
  have HB := Lib.hid (ro_below w e (.slice ad l.length cap) nw 24)
  have h1 := RC.new w e ad l.length cap nw 24
  have HV := Lib.hid (h.below HB.out)
  have HI := Lib.hid (index_p _ l n _ HV.out hn)
  have HJ := Lib.hid (at_p _ l (ixI l n + 1) _ HV.out)
  have hlt := ixI_lt l n
  have hw : IntKind.i64.wrap (ixI l n + 1) = ixI l n + 1 := IntWalk.i64_in _ (by omega)
  obtain ⟨R, hR⟩ : ∃ R, nextI l n = R := ⟨_, rfl⟩
  rw [hR]
  unfold nextI at hR
  generalize ixI l n = k at *
  clear hlt
  clear h
  go_enter Tryz.func47, Tryz.ntmps47
  go_wp2_with fail
  generalize (w.alloc (.cells #[.int .i64 e, .slice ad l.length cap, .int .i64 nw] 24)) = W at *
  obtain ⟨⟨c0, c1, c2⟩, _⟩ := h1
  go_wp2_with fail
  refine HI.out.mono ?_
  rintro _ _ ⟨rfl, rfl⟩
  by_cases hk : k < 0
  · rw [if_pos hk] at hR
    subst hR
    go_wp2_with fail
    go_ret
    exact ⟨rfl, HB.out⟩
  · rw [if_neg hk] at hR
    have hkb : decide (k < 0) = false := decide_eq_false hk
    rw [hR] at HJ
    go_wp2_with fail
    refine HJ.out.mono ?_
    rintro _ _ ⟨rfl, rfl⟩
    go_wp2_with fail
    go_ret
    exact ⟨rfl, HB.out⟩

theorem mayNs_len {l : List Int} (h : ¬ (1 ≤ l.length ∧ l.length ≤ 5)) : mayNs l = false := by unfold mayNs; rw [decide_eq_false h]; rfl

theorem mayNs_bad {l : List Int} {k : Nat} (hk : k < l.length) (h : goodK l k = false) : mayNs l = false := by
  unfold mayNs
  rw [Bool.and_eq_false_iff]
  refine .inr ?_
  rw [List.all_eq_false]
  exact ⟨k, List.mem_range.2 hk, by rw [h]; decide⟩

theorem mayNs_yes {l : List Int} (h : 1 ≤ l.length ∧ l.length ≤ 5) (hg : ∀ k, k < l.length → goodK l k = true) : mayNs l = true := by
  unfold mayNs
  rw [decide_eq_true h, Bool.true_and, List.all_eq_true]
  exact fun k hk => hg k (List.mem_range.1 hk)

theorem goodK_at {l : List Int} {k : Nat} {x : Int} (hx : l[k]? = some x) : goodK l k = (decide (1 ≤ x ∧ x ≤ 5) && !hasI (l.take k) x) := by unfold goodK; rw [hx]

set_option maxRecDepth 100000 in
set_option maxHeartbeats 2000000 in
theorem mayNodes_p (v : Value) (l : List Int) (w : World) (h : IsAt w v l) (hn : l.length ≤ 1000000) :
    Calls Tryz.prog 65 #[v] w fun r w' => r = .returned (.bool (mayNs l)) ∧ w' = w := by
  obtain ⟨ad, cap, rfl, hcap⟩ := h.shape
  have HV := Lib.hid h
  obtain ⟨R, hR⟩ : ∃ R, mayNs l = R := ⟨_, rfl⟩
  rw [hR]
  have HR := Lib.hid hR
  clear hR h
  by_cases h0 : l.length = 0
  · obtain rfl : R = false := by rw [← HR.out]; exact mayNs_len (by omega)
    have t0 : ((l.length : Int) == 0) = true := by rw [beq_iff_eq]; omega
    clear h0
    go_enter Tryz.func65, Tryz.ntmps65
    go_wp2_with fail
    go_ret
    exact ⟨rfl, rfl⟩
  have t0 : ((l.length : Int) == 0) = false := by rw [beq_eq_false_iff_ne]; omega
  by_cases h5 : l.length ≤ 5
  case neg =>
    obtain rfl : R = false := by rw [← HR.out]; exact mayNs_len (by omega)
    have t5 : (5 : Int) < (l.length : Int) := by omega
    clear h0 h5
    go_enter Tryz.func65, Tryz.ntmps65
    go_wp2_with fail
    go_ret
    exact ⟨rfl, rfl⟩
  have t5 : decide ((5 : Int) < (l.length : Int)) = false := decide_eq_false (by omega)
  have HLL := Lib.hid (show 1 ≤ l.length ∧ l.length ≤ 5 by omega)
  clear h0 h5
  go_enter Tryz.func65, Tryz.ntmps65
  go_wp2_with fail
  go_loopw [3, 4, 15] (fun _ _ s15 wr => ∃ k : Nat, k ≤ l.length ∧ s15 = .int .i64 k ∧ wr = w ∧ Hid (∀ j, j < k → goodK l j = true)) (fun _ _ i _ => l.length - (intOf i).toNat)
  case atStart => exact ⟨0, Nat.zero_le _, rfl, rfl, Lib.hid (fun j hj => absurd hj (Nat.not_lt_zero _))⟩
  case round =>
    obtain ⟨k, hk, rfl, rfl, A⟩ := hrel
    by_cases hlt : k < l.length
    · have hltz : (k : Int) < (l.length : Int) := by omega
      obtain ⟨x, hx⟩ : ∃ x, l[k]? = some x := ⟨_, List.getElem?_eq_getElem hlt⟩
      obtain ⟨g, o, rfl, c0⟩ := HV.out.get hx
      have hgk := goodK_at hx
      have HT := Lib.hid (contains_p _ (l.take k) x wr (HV.out.take (by omega)) (by simp; omega))
      have hin : k ≤ l.length := by omega
      have hinc : k ≤ cap := by omega
      have HBAD : Hid (goodK l k = false → R = false) := Lib.hid (fun e => by rw [← HR.out]; exact mayNs_bad hlt e)
      have HNX : Hid (goodK l k = true → ∀ j, j < k + 1 → goodK l j = true) := Lib.hid (fun e j hj => by
        by_cases ej : j = k
        · rw [ej]; exact e
        · exact A.out j (by omega))
      clear hx
      by_cases hx1 : x < 1
      · obtain rfl : R = false := HBAD.out (by rw [hgk, decide_eq_false (by omega)]; rfl)
        clear hgk HBAD HNX
        go_wp2_with fail
        go_ret
        exact ⟨rfl, rfl⟩
      have t1 : decide (x < 1) = false := decide_eq_false hx1
      by_cases hx5 : 5 < x
      · obtain rfl : R = false := HBAD.out (by rw [hgk, decide_eq_false (by omega)]; rfl)
        clear hgk HBAD HNX hx1
        go_wp2_with fail
        go_ret
        exact ⟨rfl, rfl⟩
      have t2 : decide (5 < x) = false := decide_eq_false hx5
      rw [decide_eq_true (show 1 ≤ x ∧ x ≤ 5 by omega), Bool.true_and] at hgk
      clear hx1 hx5
      cases hc : hasI (l.take k) x with
      | true =>
        rw [hc] at hgk HT
        obtain rfl : R = false := HBAD.out (by rw [hgk]; rfl)
        clear hgk HBAD HNX hc
        go_wp2_with fail
        refine HT.out.mono ?_
        rintro _ _ ⟨rfl, rfl⟩
        go_wp2_with fail
        go_ret
        exact ⟨rfl, rfl⟩
      | false =>
        rw [hc] at hgk HT
        have HN := Lib.hid (HNX.out (by rw [hgk]; rfl))
        clear hgk HBAD HNX hc
        go_wp2_with fail
        refine HT.out.mono ?_
        rintro _ _ ⟨rfl, rfl⟩
        go_wp2_with fail
        go_roundw
        case rel => exact ⟨k + 1, by omega, by go_num, by first | rfl | trivial, HN⟩
        case measure => simp [intOf]; omega
    · have hltz : ¬ (k : Int) < (l.length : Int) := by omega
      obtain rfl : R = true := by rw [← HR.out]; exact mayNs_yes HLL.out (fun j hj => A.out j (by omega))
      go_wp2_with fail
      go_ret
      exact ⟨rfl, rfl⟩

set_option maxRecDepth 100000 in
set_option maxHeartbeats 2000000 in
theorem mayNew_p (e nw : Int) (v : Value) (l : List Int) (w : World) (h : IsAt w v l) (hn : l.length ≤ 1000000) :
    Calls Tryz.prog 66 #[.agg #[.int .i64 e, v, .int .i64 nw]] w fun r w' => r = .returned (.bool (mayW l nw)) ∧ Below w.heap.size w w' := by
  obtain ⟨ad, cap, rfl, _⟩ := h.shape
  have HB := Lib.hid (ro_below w e (.slice ad l.length cap) nw 24)
  have h1 := RC.new w e ad l.length cap nw 24
  have HV := Lib.hid (h.below HB.out)
  have HTL : Hid (∀ Y, Below w.heap.size w Y → Calls Tryz.prog 46 #[.agg #[.int .i64 e, .slice ad l.length cap, .int .i64 nw]] Y fun r w' => r = .returned (.int .i64 (tailI l)) ∧ Below Y.heap.size Y w') := Lib.hid (fun Y hY => tail_p e nw _ l Y (h.below hY) hn)
  obtain ⟨R, hR⟩ : ∃ R, mayW l nw = R := ⟨_, rfl⟩
  rw [hR]
  unfold mayW at hR
  generalize tailI l = tl at *
  clear h
  go_enter Tryz.func66, Tryz.ntmps66
  go_wp2_with fail
  generalize (w.alloc (.cells #[.int .i64 e, .slice ad l.length cap, .int .i64 nw] 24)) = W at *
  obtain ⟨⟨c0, c1, c2⟩, _⟩ := h1
  by_cases hz : nw = 0
  · obtain rfl : R = true := by rw [← hR, decide_eq_true hz]; rfl
    have hzb : (nw == 0) = true := beq_iff_eq.2 hz
    clear hR hz
    go_quiet (fail)
    go_wp2_with fail
    go_ret
    exact ⟨rfl, below_drewN HB.out nq⟩
  have hzb : (nw == 0) = false := by rw [beq_eq_false_iff_ne]; exact hz
  rw [decide_eq_false hz, Bool.false_or] at hR
  by_cases hl : 1 < l.length
  case neg =>
    have t1 : decide ((1 : Int) < (l.length : Int)) = false := decide_eq_false (by omega)
    rw [decide_eq_false hl, Bool.false_and] at hR
    subst hR
    clear hl hz
    go_quiet (fail)
    go_wp2_with fail
    go_ret
    exact ⟨rfl, below_drewN HB.out nq⟩
  have t1 : (1 : Int) < (l.length : Int) := by omega
  rw [decide_eq_true hl, Bool.true_and] at hR
  have hRb : (nw == tl) = R := by rw [← hR]; rfl
  have y1 : Hid (∀ d os, Calls Tryz.prog 46 #[.agg #[.int .i64 e, .slice ad l.length cap, .int .i64 nw]] (Go.Sort.grow (redrawn W d) os) fun e w'' => e = .returned (.int .i64 tl) ∧ ∃ p : Regrown, w'' = Go.Sort.grow (redrawn W p.d) p.os) := Lib.hid (fun d os => Calls.regrown_of (HTL.out _ (HB.out.trans ((below_regrown W d os).mono HB.out.size))))
  have q0 := cell_regrown c0
  have q1 := cell_regrown c1
  have q2 := cell_regrown c2
  clear hl hz hR c0 c1 c2
  refine wp_region_quiet_below (by kernel_rfl) (by kernel_rfl) ?_
  repeat (quiet_step ((go_at_call 46; exact y1.out _ _)))
  refine wpQuiet_nil ?_
  intro _ hw'
  obtain ⟨⟨dq, osq⟩, hw''⟩ := hw'
  subst hw''
  have hE := HB.out.trans ((below_regrown W dq osq).mono HB.out.size)
  go_wp2_with fail
  go_ret
  subst hRb
  exact ⟨rfl, hE⟩

set_option maxRecDepth 100000 in
set_option maxHeartbeats 2000000 in
theorem romay_p (e nw : Int) (v : Value) (l : List Int) (w : World) (h : IsAt w v l) (hn : l.length ≤ 1000000) :
    Calls Tryz.prog 44 #[.agg #[.int .i64 e, v, .int .i64 nw]] w fun r w' => r = .returned (.bool (mayR ⟨e, l, nw⟩)) ∧ Below w.heap.size w w' := by
  obtain ⟨ad, cap, rfl, _⟩ := h.shape
  have HB := Lib.hid (ro_below w e (.slice ad l.length cap) nw 24)
  have HV := Lib.hid (h.below HB.out)
  have HM1 := Lib.hid (mayNodes_p _ l _ HV.out hn)
  have HM2 := Lib.hid (mayNew_p e nw _ l _ HV.out hn)
  obtain ⟨R, hR⟩ : ∃ R, mayR ⟨e, l, nw⟩ = R := ⟨_, rfl⟩
  rw [hR]
  unfold mayR at hR
  dsimp only at hR
  generalize mayNs l = m1 at *
  generalize mayW l nw = m2 at *
  clear h HV
  by_cases h1 : 1 ≤ e
  case neg =>
    have t1 : decide (1 ≤ e) = false := decide_eq_false h1
    rw [decide_eq_false (show ¬ (1 ≤ e ∧ e ≤ 1099511627776) by omega), Bool.false_and] at hR
    subst hR
    clear h1
    go_enter Tryz.func44, Tryz.ntmps44
    go_wp2_with fail
    go_ret
    exact ⟨rfl, HB.out⟩
  by_cases h2 : e ≤ 1099511627776
  case neg =>
    have t2 : decide (e ≤ 1099511627776) = false := decide_eq_false h2
    rw [decide_eq_false (show ¬ (1 ≤ e ∧ e ≤ 1099511627776) by omega), Bool.false_and] at hR
    subst hR
    clear h2
    go_enter Tryz.func44, Tryz.ntmps44
    go_wp2_with fail
    go_ret
    exact ⟨rfl, HB.out⟩
  rw [decide_eq_true (show 1 ≤ e ∧ e ≤ 1099511627776 from ⟨h1, h2⟩), Bool.true_and] at hR
  cases m1 with
  | false =>
    rw [Bool.false_and] at hR
    subst hR
    go_enter Tryz.func44, Tryz.ntmps44
    go_wp2_with fail
    refine HM1.out.mono ?_
    rintro _ _ ⟨rfl, rfl⟩
    go_wp2_with fail
    go_ret
    exact ⟨rfl, HB.out⟩
  | true =>
    rw [Bool.true_and] at hR
    subst hR
    go_enter Tryz.func44, Tryz.ntmps44
    go_wp2_with fail
    refine HM1.out.mono ?_
    rintro _ _ ⟨rfl, rfl⟩
    go_wp2_with fail
    refine HM2.out.mono ?_
    rintro _ w2 ⟨rfl, hb2⟩
    go_wp2_with fail
    go_ret
    exact ⟨rfl, HB.out.trans (hb2.mono HB.out.size)⟩

set_option maxRecDepth 100000 in
set_option maxHeartbeats 2000000 in
theorem checked_yes (e nw : Int) (ad : Option Addr) (cap : Nat) (l : List Int) (w : World) (h : IsAt w (.slice ad l.length cap) l) (hn : l.length ≤ 1000000) (hm : mayR ⟨e, l, nw⟩ = true) :
    Calls Tryz.prog 62 #[.agg #[.int .i64 e, .slice ad l.length cap, .int .i64 nw]] w fun r w' => r = .returned (.tuple #[.agg #[.int .i64 e, .slice ad l.length cap, .int .i64 nw], .bool true]) ∧ Below w.heap.size w w' := by
  have hb : Below w.heap.size w ((w.alloc (.cells #[.int .i64 e, .slice ad l.length cap, .int .i64 nw] 24)).alloc (.cells #[.int .i64 0, .slice none 0 0, .int .i64 0] 24)) := ((Below.refl _ w).alloc (Nat.le_refl _) _).alloc (by simp) _
  have HB := Lib.hid hb
  have h1 := (RC.new w e ad l.length cap nw 24).alloc (.cells #[.int .i64 0, .slice none 0 0, .int .i64 0] 24)
  have h2 : RC ((w.alloc (.cells #[.int .i64 e, .slice ad l.length cap, .int .i64 nw] 24)).alloc (.cells #[.int .i64 0, .slice none 0 0, .int .i64 0] 24)) (w.heap.size + 1) 0 (.slice none 0 0) 0 := by
    have := RC.new (w.alloc (.cells #[.int .i64 e, .slice ad l.length cap, .int .i64 nw] 24)) 0 none 0 0 0 24
    simpa using this
  have HM := romay_p e nw _ l _ (h.below hb) hn
  rw [hm] at HM
  have HM := Lib.hid HM
  clear h hb hm
  go_enter Tryz.func62, Tryz.ntmps62
  go_wp2_with fail
  generalize (w.alloc (.cells #[.int .i64 e, .slice ad l.length cap, .int .i64 nw] 24)).alloc (.cells #[.int .i64 0, .slice none 0 0, .int .i64 0] 24) = W at *
  have H2 := Lib.hid (And.intro h1 h2)
  obtain ⟨⟨c0, c1, c2⟩, _⟩ := h1
  clear h2
  go_wp2_with fail
  refine HM.out.mono ?_
  rintro _ w2 ⟨rfl, hb2⟩
  have hB2 := HB.out.trans (hb2.mono HB.out.size)
  have k1 := H2.out.1.below hb2
  have k2 := H2.out.2.below hb2
  clear c0 c1 c2 hb2 HM
  obtain ⟨⟨c0, c1, c2⟩, _⟩ := k1
  obtain ⟨⟨d0, d1, d2⟩, f0, f1, f2⟩ := k2
  go_wp2_with fail
  have hB3 := ((hB2.setCell (p := ⟨w.heap.size + 1, 0, none⟩) (by simp) (.int .i64 e)).setCell (p := ⟨w.heap.size + 1, 1, none⟩) (by simp) (.slice ad l.length cap)).setCell (p := ⟨w.heap.size + 1, 2, none⟩) (by simp) (.int .i64 nw)
  have t0 : (((w2.setCell ⟨w.heap.size + 1, 0, none⟩ (.int .i64 e)).setCell ⟨w.heap.size + 1, 1, none⟩ (.slice ad l.length cap)).setCell ⟨w.heap.size + 1, 2, none⟩ (.int .i64 nw)).cell? ⟨w.heap.size + 1, 0, none⟩ = some (.int .i64 e) := by go_simp
  have t1 : (((w2.setCell ⟨w.heap.size + 1, 0, none⟩ (.int .i64 e)).setCell ⟨w.heap.size + 1, 1, none⟩ (.slice ad l.length cap)).setCell ⟨w.heap.size + 1, 2, none⟩ (.int .i64 nw)).cell? ⟨w.heap.size + 1, 1, none⟩ = some (.slice ad l.length cap) := by go_simp
  have t2 : (((w2.setCell ⟨w.heap.size + 1, 0, none⟩ (.int .i64 e)).setCell ⟨w.heap.size + 1, 1, none⟩ (.slice ad l.length cap)).setCell ⟨w.heap.size + 1, 2, none⟩ (.int .i64 nw)).cell? ⟨w.heap.size + 1, 2, none⟩ = some (.int .i64 nw) := by go_simp
  exact bodyPost_ret (v := .tuple #[.agg #[.int .i64 e, .slice ad l.length cap, .int .i64 nw], .bool true]) (by simp [results, Tryz.results62, go_sem, t0, t1, t2]) rfl ⟨rfl, hB3⟩

set_option maxRecDepth 100000 in
set_option maxHeartbeats 2000000 in
theorem checked_no (e nw : Int) (ad : Option Addr) (cap : Nat) (l : List Int) (w : World) (h : IsAt w (.slice ad l.length cap) l) (hn : l.length ≤ 1000000) (hm : mayR ⟨e, l, nw⟩ = false) :
    Calls Tryz.prog 62 #[.agg #[.int .i64 e, .slice ad l.length cap, .int .i64 nw]] w fun r w' => r = .returned (.tuple #[.agg #[.int .i64 0, .slice none 0 0, .int .i64 0], .bool false]) ∧ Below w.heap.size w w' := by
  have hb : Below w.heap.size w ((w.alloc (.cells #[.int .i64 e, .slice ad l.length cap, .int .i64 nw] 24)).alloc (.cells #[.int .i64 0, .slice none 0 0, .int .i64 0] 24)) := ((Below.refl _ w).alloc (Nat.le_refl _) _).alloc (by simp) _
  have HB := Lib.hid hb
  have h1 := (RC.new w e ad l.length cap nw 24).alloc (.cells #[.int .i64 0, .slice none 0 0, .int .i64 0] 24)
  have h2 : RC ((w.alloc (.cells #[.int .i64 e, .slice ad l.length cap, .int .i64 nw] 24)).alloc (.cells #[.int .i64 0, .slice none 0 0, .int .i64 0] 24)) (w.heap.size + 1) 0 (.slice none 0 0) 0 := by
    have := RC.new (w.alloc (.cells #[.int .i64 e, .slice ad l.length cap, .int .i64 nw] 24)) 0 none 0 0 0 24
    simpa using this
  have HM := romay_p e nw _ l _ (h.below hb) hn
  rw [hm] at HM
  have HM := Lib.hid HM
  clear h hb hm
  go_enter Tryz.func62, Tryz.ntmps62
  go_wp2_with fail
  generalize (w.alloc (.cells #[.int .i64 e, .slice ad l.length cap, .int .i64 nw] 24)).alloc (.cells #[.int .i64 0, .slice none 0 0, .int .i64 0] 24) = W at *
  have H2 := Lib.hid (And.intro h1 h2)
  obtain ⟨⟨c0, c1, c2⟩, _⟩ := h1
  clear h2
  go_wp2_with fail
  refine HM.out.mono ?_
  rintro _ w2 ⟨rfl, hb2⟩
  have hB2 := HB.out.trans (hb2.mono HB.out.size)
  have k1 := H2.out.1.below hb2
  have k2 := H2.out.2.below hb2
  clear c0 c1 c2 hb2 HM
  obtain ⟨⟨c0, c1, c2⟩, _⟩ := k1
  obtain ⟨⟨d0, d1, d2⟩, f0, f1, f2⟩ := k2
  go_wp2_with fail
  have hB3 := ((hB2.setCell (p := ⟨w.heap.size + 1, 0, none⟩) (by simp) (.int .i64 0)).setCell (p := ⟨w.heap.size + 1, 1, none⟩) (by simp) (.slice none 0 0)).setCell (p := ⟨w.heap.size + 1, 2, none⟩) (by simp) (.int .i64 0)
  have t0 : (((w2.setCell ⟨w.heap.size + 1, 0, none⟩ (.int .i64 0)).setCell ⟨w.heap.size + 1, 1, none⟩ (.slice none 0 0)).setCell ⟨w.heap.size + 1, 2, none⟩ (.int .i64 0)).cell? ⟨w.heap.size + 1, 0, none⟩ = some (.int .i64 0) := by go_simp
  have t1 : (((w2.setCell ⟨w.heap.size + 1, 0, none⟩ (.int .i64 0)).setCell ⟨w.heap.size + 1, 1, none⟩ (.slice none 0 0)).setCell ⟨w.heap.size + 1, 2, none⟩ (.int .i64 0)).cell? ⟨w.heap.size + 1, 1, none⟩ = some (.slice none 0 0) := by go_simp
  have t2 : (((w2.setCell ⟨w.heap.size + 1, 0, none⟩ (.int .i64 0)).setCell ⟨w.heap.size + 1, 1, none⟩ (.slice none 0 0)).setCell ⟨w.heap.size + 1, 2, none⟩ (.int .i64 0)).cell? ⟨w.heap.size + 1, 2, none⟩ = some (.int .i64 0) := by go_simp
  exact bodyPost_ret (v := .tuple #[.agg #[.int .i64 0, .slice none 0 0, .int .i64 0], .bool false]) (by simp [results, Tryz.results62, go_sem, t0, t1, t2]) rfl ⟨rfl, hB3⟩

end Go.Proofs.YtmamepmfbfinlaaGreatDoor
