/-
  The contract of the reference's MayRoster.
-/
import Derived.Test.YtmamepmfbfinlaaGreatDoorRosF
namespace Go.Proofs.YtmamepmfbfinlaaGreatDoor
open Go.RowKit

theorem ix_here {l : List Int} {k : Nat} {x : Int} (hx : l[k]? = some x) (h : hasI (l.take k) x = false) : ixI l x = (k : Int) := by
  have hno : ∀ j y, j < k → l[j]? = some y → y ≠ x := by
    intro j y hj hy he
    unfold hasI at h
    have h2 : ixI (l.take k) x = -1 := by
      rcases ixI_cases (l.take k) x with ⟨h1, _⟩ | ⟨m, _, h1, _⟩
      · exact h1
      · rw [h1] at h
        have := of_decide_eq_false h
        omega
    rcases ixI_cases (l.take k) x with ⟨_, h3⟩ | ⟨m, _, h1, _⟩
    · unfold ixN at h3
      rw [List.findIdx?_eq_none_iff] at h3
      have hm : y ∈ l.take k := List.mem_of_getElem? (i := j) (by rw [List.getElem?_take, if_pos hj]; exact hy)
      have := h3 y hm
      rw [he] at this
      simp at this
    · omega
  unfold ixI
  rw [ixN_hit hx rfl hno]

theorem ix_ahead {l : List Int} {k : Nat} {x : Int} (hk : k ≤ l.length) (h : hasI (l.take k) x = true) : ixI l x ≠ (k : Int) := by
  unfold hasI at h
  have h0 := of_decide_eq_true h
  rcases ixI_cases (l.take k) x with ⟨h1, _⟩ | ⟨m, hm, h1, h2⟩
  · omega
  · have hmk : m < k := by
      rw [List.length_take] at hm
      omega
    unfold ixN at h2
    obtain ⟨h3, h4, h5⟩ := List.findIdx?_eq_some_iff_getElem.1 h2
    have hl : m < l.length := by omega
    have hit : ixN l x = some m := by
      refine ixN_hit (x := l[m]) (List.getElem?_eq_getElem hl) (by simpa using h4) (fun j y hj hy he => ?_)
      have := h5 j hj
      have e : (l.take k)[j]'(by omega) = y := by
        rw [List.getElem_take]
        rw [List.getElem?_eq_getElem (by omega)] at hy
        exact Option.some.inj hy
      rw [e, he] at this
      simp at this
    unfold ixI
    rw [hit]
    show (m : Int) ≠ (k : Int)
    omega

theorem getI_last {l : List Int} {k : Nat} {x : Int} (hk : l.length = k + 1) (hx : l[k]? = some x) : tailI l = x := by
  unfold tailI getI
  have e : (l.length : Int) - 1 = (k : Int) := by omega
  rw [e, if_pos ⟨by omega, by omega⟩, Int.toNat_natCast, List.getD_eq_getElem?_getD, hx]
  rfl

set_option maxRecDepth 100000 in
set_option maxHeartbeats 8000000 in
theorem rmayr_p (e nw : Int) (v : Value) (l : List Int) (w : World) (h : IsAt w v l) (hn : l.length ≤ 1000) :
    Calls Tryz.prog 10 #[.agg #[.int .i64 e, v, .int .i64 nw]] w fun r w' => r = .returned (.bool (mayR ⟨e, l, nw⟩)) ∧ Below w.heap.size w w' := by
  obtain ⟨ad, cap, rfl, _⟩ := h.shape
  have HB := Lib.hid (ro_below w e (.slice ad l.length cap) nw 24)
  have h1 := RC.new w e ad l.length cap nw 24
  have HV := Lib.hid (h.below HB.out)
  obtain ⟨R, hR⟩ : ∃ R, mayR ⟨e, l, nw⟩ = R := ⟨_, rfl⟩
  rw [hR]
  have HR : Hid (mayR ⟨e, l, nw⟩ = R) := Lib.hid hR
  clear hR h
  by_cases he : e < 1
  · have hRf : R = false := by rw [← HR.out]; unfold mayR; rw [decide_eq_false (show ¬ (1 ≤ e ∧ e ≤ 1099511627776) by omega)]; rfl
    subst hRf
    clear HR 
    go_enter Tryz.func10, Tryz.ntmps10
    go_wp2_with fail
    generalize (w.alloc (.cells #[.int .i64 e, .slice ad l.length cap, .int .i64 nw] 24)) = W at *
    obtain ⟨⟨c0, c1, c2⟩, _⟩ := h1
    go_quiet (fail)
    go_wp2_with fail
    go_ret
    exact ⟨rfl, below_drewN HB.out nq⟩
  have t1 : decide (e < 1) = false := decide_eq_false he
  by_cases he2 : 1099511627776 < e
  · have hRf : R = false := by rw [← HR.out]; unfold mayR; rw [decide_eq_false (show ¬ (1 ≤ e ∧ e ≤ 1099511627776) by omega)]; rfl
    subst hRf
    clear HR he
    go_enter Tryz.func10, Tryz.ntmps10
    go_wp2_with fail
    generalize (w.alloc (.cells #[.int .i64 e, .slice ad l.length cap, .int .i64 nw] 24)) = W at *
    obtain ⟨⟨c0, c1, c2⟩, _⟩ := h1
    go_quiet (fail)
    go_wp2_with fail
    go_ret
    exact ⟨rfl, below_drewN HB.out nq⟩
  have t2 : decide (1099511627776 < e) = false := decide_eq_false he2
  have hep : 1 ≤ e ∧ e ≤ 1099511627776 := by omega
  clear he he2
  by_cases hl1 : l.length < 1
  · have hRf : R = false := by rw [← HR.out]; unfold mayR; dsimp only; rw [mayNs_len (by omega), Bool.false_and, Bool.and_false]
    have hlz : (l.length : Int) < 1 := by omega
    subst hRf
    clear HR hep hl1
    go_enter Tryz.func10, Tryz.ntmps10
    go_wp2_with fail
    generalize (w.alloc (.cells #[.int .i64 e, .slice ad l.length cap, .int .i64 nw] 24)) = W at *
    obtain ⟨⟨c0, c1, c2⟩, _⟩ := h1
    go_quiet (fail)
    go_wp2_with fail
    go_ret
    exact ⟨rfl, below_drewN HB.out nq⟩
  have t3 : decide ((l.length : Int) < 1) = false := decide_eq_false (by omega)
  by_cases hl5 : 5 < l.length
  · have hRf : R = false := by rw [← HR.out]; unfold mayR; dsimp only; rw [mayNs_len (by omega), Bool.false_and, Bool.and_false]
    have hlz : (5 : Int) < (l.length : Int) := by omega
    subst hRf
    clear HR hep hl1 hl5
    go_enter Tryz.func10, Tryz.ntmps10
    go_wp2_with fail
    generalize (w.alloc (.cells #[.int .i64 e, .slice ad l.length cap, .int .i64 nw] 24)) = W at *
    obtain ⟨⟨c0, c1, c2⟩, _⟩ := h1
    go_quiet (fail)
    go_wp2_with fail
    go_ret
    exact ⟨rfl, below_drewN HB.out nq⟩
  have t4 : decide ((5 : Int) < (l.length : Int)) = false := decide_eq_false (by omega)
  have HLL := Lib.hid (show 1 ≤ l.length ∧ l.length ≤ 5 by omega)
  have HRM : Hid ((mayNs l && mayW l nw) = R) := Lib.hid (by
    rw [← HR.out]
    unfold mayR
    rw [decide_eq_true hep, Bool.true_and])
  clear hl1 hl5 hep HR
  obtain ⟨k0, hk0⟩ : ∃ k0, l.length = k0 + 1 := ⟨l.length - 1, by have := HLL.out; omega⟩
  obtain ⟨x9, hx9⟩ : ∃ x, l[k0]? = some x := ⟨_, List.getElem?_eq_getElem (by omega)⟩
  have htl := getI_last hk0 hx9
  have hwl : IntKind.i64.wrap ((l.length : Int) - 1) = (k0 : Int) := by
    have e : (l.length : Int) - 1 = (k0 : Int) := by omega
    rw [e]
    exact IntWalk.i64_in _ (by have := HLL.out; omega)
  have hk1 : k0 < l.length := by omega
  have hk2 : (k0 : Int) < (l.length : Int) := by omega
  obtain ⟨g9, o9, rfl, x90⟩ := HV.out.get hx9
  have HK := Lib.hid (And.intro hk0 hx9)
  clear hk0 hx9
  by_cases hz : nw = 0
  case neg =>
   have z1 : (nw != 0) = true := by rw [bne_iff_ne]; exact hz
   have z2 : (nw == 0) = false := by rw [beq_eq_false_iff_ne]; exact hz
   by_cases h2 : l.length < 2
   case pos =>
    have hRf : R = false := by rw [← HRM.out]; unfold mayW; rw [decide_eq_false hz, decide_eq_false (show ¬ 1 < l.length by omega), Bool.false_and, Bool.false_or, Bool.and_false]
    have h2z : (l.length : Int) < 2 := by omega
    subst hRf
    clear HRM htl h2 hz
    go_enter Tryz.func10, Tryz.ntmps10
    go_wp2_with fail
    generalize (w.alloc (.cells #[.int .i64 e, .slice (some ⟨g9, o9, none⟩) l.length cap, .int .i64 nw] 24)) = W at *
    obtain ⟨⟨c0, c1, c2⟩, _⟩ := h1
    go_quiet (fail)
    go_wp2_with fail
    go_ret
    exact ⟨rfl, below_drewN HB.out nq⟩
   have h2z : decide ((l.length : Int) < 2) = false := decide_eq_false (by omega)
   by_cases hq : x9 = nw
   case neg =>
    have hRf : R = false := by
      have e : nw ≠ x9 := fun e => hq e.symm
      rw [← HRM.out]; unfold mayW; rw [htl, decide_eq_false hz, decide_eq_false e, Bool.and_false, Bool.false_or, Bool.and_false]
    have q1 : (x9 != nw) = true := by rw [bne_iff_ne]; exact hq
    have q2 : (x9 == nw) = false := by rw [beq_eq_false_iff_ne]; exact hq
    subst hRf
    clear HRM htl h2 hz hq
    go_enter Tryz.func10, Tryz.ntmps10
    go_wp2_with fail
    generalize (w.alloc (.cells #[.int .i64 e, .slice (some ⟨g9, o9, none⟩) l.length cap, .int .i64 nw] 24)) = W at *
    obtain ⟨⟨c0, c1, c2⟩, _⟩ := h1
    go_quiet (fail)
    go_wp2_with fail
    go_ret
    exact ⟨rfl, below_drewN HB.out nq⟩
   case pos =>
    have q1 : (x9 != nw) = false := by rw [bne_eq_false_iff_eq]; exact hq
    have q2 : (x9 == nw) = true := beq_iff_eq.2 hq
    have hW : mayW l nw = true := by unfold mayW; rw [htl, decide_eq_true hq.symm, decide_eq_true (show 1 < l.length by omega), Bool.and_true, Bool.or_true]
    have HRN : Hid (mayNs l = R) := Lib.hid (by rw [← HRM.out, hW, Bool.and_true])
    clear HRM hW htl h2 hz hq
    go_enter Tryz.func10, Tryz.ntmps10
    go_wp2_with fail
    generalize (w.alloc (.cells #[.int .i64 e, .slice (some ⟨g9, o9, none⟩) l.length cap, .int .i64 nw] 24)) = W at *
    have H1 := Lib.hid h1
    obtain ⟨⟨c0, c1, c2⟩, _⟩ := h1
    go_quiet (fail)
    clear c0 c1 c2 x90 hwl hk1 hk2 q1 q2 z1 z2 h2z
    have HBN := Lib.hid (below_drewN HB.out nq)
    have HWN := Lib.hid (below_drewN (Below.refl W.heap.size W) nq)
    generalize W.drewN nq = V at *
    have c1 := (H1.out.below HWN.out).1.2.1
    go_wp2_with fail
    go_loopw [3] (fun i wr => ∃ k : Nat, k ≤ l.length ∧ i = .int .i64 k ∧ wr.cell? ⟨w.heap.size, 1, none⟩ = some (.slice (some ⟨g9, o9, none⟩) l.length cap) ∧ Hid (Below W.heap.size W wr) ∧ Hid (∀ j, j < k → goodK l j = true)) (fun i _ => l.length - (intOf i).toNat)
    case atStart => exact ⟨0, Nat.zero_le _, rfl, c1, HWN, Lib.hid (fun j hj => absurd hj (Nat.not_lt_zero _))⟩
    case round =>
      clear c1
      obtain ⟨k, hk, rfl, c1, HBW, A⟩ := hrel
      have HBA := Lib.hid (HB.out.trans (HBW.out.mono HB.out.size))
      by_cases hlt : k < l.length
      · have hltz : (k : Int) < (l.length : Int) := by omega
        obtain ⟨x, hx⟩ : ∃ x, l[k]? = some x := ⟨_, List.getElem?_eq_getElem hlt⟩
        have hgk := goodK_at hx
        have HIX := Lib.hid (And.intro (@ix_here l k x hx) (@ix_ahead l k x (by omega)))
        obtain ⟨_, _, hge, x0⟩ := (HV.out.below HBW.out).get hx
        simp only [Option.some.injEq, Addr.mk.injEq, and_true] at hge
        obtain ⟨rfl, rfl⟩ := hge
        have HBAD : Hid (goodK l k = false → R = false) := Lib.hid (fun e => by rw [← HRN.out]; exact mayNs_bad hlt e)
        have HNX : Hid (goodK l k = true → ∀ j, j < k + 1 → goodK l j = true) := Lib.hid (fun e j hj => by
          by_cases ej : j = k
          · rw [ej]; exact e
          · exact A.out j (by omega))
        clear hx
        by_cases hx1 : x < 1
        · obtain rfl : R = false := HBAD.out (by rw [hgk, decide_eq_false (by omega)]; rfl)
          clear hgk HBAD HNX
          go_wp2_with fail
          go_quiet (fail)
          go_wp2_with fail
          go_ret
          exact ⟨rfl, below_drewN HBA.out nq⟩
        have t5 : decide (x < 1) = false := decide_eq_false hx1
        by_cases hx5 : 5 < x
        · obtain rfl : R = false := HBAD.out (by rw [hgk, decide_eq_false (by omega)]; rfl)
          clear hgk HBAD HNX hx1
          go_wp2_with fail
          go_quiet (fail)
          go_wp2_with fail
          go_ret
          exact ⟨rfl, below_drewN HBA.out nq⟩
        have t6 : decide (5 < x) = false := decide_eq_false hx5
        rw [decide_eq_true (show 1 ≤ x ∧ x ≤ 5 by omega), Bool.true_and] at hgk
        clear hx1 hx5
        obtain ⟨⟨q0, q1, q2⟩, _⟩ := H1.out.below HBW.out
        have y1 : Hid (∀ d os, Calls Tryz.prog 16 #[.agg #[.int .i64 e, .slice (some ⟨g9, o9, none⟩) l.length cap, .int .i64 nw], .int .i64 x] (Go.Sort.grow (redrawn wr d) os) fun e w'' => e = .returned (.int .i64 (ixI l x)) ∧ ∃ p : Regrown, w'' = Go.Sort.grow (redrawn wr p.d) p.os) := Lib.hid (fun d os => Calls.regrown_of (spot_p e nw x _ l _ ((HV.out.below HBW.out).below (below_regrown wr d os)) hn))
        have p0 := cell_regrown q0
        have p1 := cell_regrown q1
        have p2 := cell_regrown q2
        have p3 := cell_regrown x0
        cases hc : hasI (l.take k) x with
        | true =>
          have hne := HIX.out.2 hc
          rw [hc] at hgk
          obtain rfl : R = false := HBAD.out (by rw [hgk]; rfl)
          generalize ixI l x = p at *
          have n1 : (p != (k : Int)) = true := by rw [bne_iff_ne]; exact hne
          have n2 : (p == (k : Int)) = false := by rw [beq_eq_false_iff_ne]; exact hne
          clear hgk HBAD HNX hc HIX hne
          go_wp2_with fail
          clear c1 q0 q1 q2 x0
          refine wp_region_quiet_below (by kernel_rfl) (by kernel_rfl) ?_
          repeat (quiet_step ((go_at_call 16; exact y1.out _ _)))
          refine wpQuiet_nil ?_
          intro _ hw'
          obtain ⟨⟨dq, osq⟩, hw''⟩ := hw'
          subst hw''
          have hE := HBA.out.trans ((below_regrown wr dq osq).mono HBA.out.size)
          go_wp2_with fail
          go_ret
          exact ⟨rfl, hE⟩
        | false =>
          have heq := HIX.out.1 hc
          rw [hc] at hgk
          have HN := Lib.hid (HNX.out (by rw [hgk]; rfl))
          rw [heq] at y1
          clear hgk HBAD HNX hc HIX heq
          go_wp2_with fail
          clear c1 q0 q1 q2 x0
          refine wp_region_quiet_below (by kernel_rfl) (by kernel_rfl) ?_
          repeat (quiet_step ((go_at_call 16; exact y1.out _ _)))
          refine wpQuiet_nil ?_
          intro _ hw'
          obtain ⟨⟨dq, osq⟩, hw''⟩ := hw'
          subst hw''
          have hE := HBW.out.trans ((below_regrown wr dq osq).mono HBW.out.size)
          have c1 := p1 dq osq
          clear p0 p1 p2 p3 y1
          go_wp2_with fail
          go_roundw
          case rel => exact ⟨k + 1, by omega, by go_num, c1, Lib.hid hE, HN⟩
          case measure => simp [intOf]; omega
      · have hltz : ¬ (k : Int) < (l.length : Int) := by omega
        obtain rfl : R = true := by rw [← HRN.out]; exact mayNs_yes HLL.out (fun j hj => A.out j (by omega))
        go_wp2_with fail
        go_ret
        exact ⟨rfl, HBA.out⟩
  case pos =>
    have z1 : (nw != 0) = false := by rw [bne_eq_false_iff_eq]; exact hz
    have z2 : (nw == 0) = true := beq_iff_eq.2 hz
    have hW : mayW l nw = true := by unfold mayW; rw [decide_eq_true hz]; rfl
    have HRN : Hid (mayNs l = R) := Lib.hid (by rw [← HRM.out, hW, Bool.and_true])
    clear HRM hW htl hz
    go_enter Tryz.func10, Tryz.ntmps10
    go_wp2_with fail
    generalize (w.alloc (.cells #[.int .i64 e, .slice (some ⟨g9, o9, none⟩) l.length cap, .int .i64 nw] 24)) = W at *
    have H1 := Lib.hid h1
    obtain ⟨⟨c0, c1, c2⟩, _⟩ := h1
    go_quiet (fail)
    clear c0 c1 c2 x90 hwl hk1 hk2 z1 z2
    have HBN := Lib.hid (below_drewN HB.out nq)
    have HWN := Lib.hid (below_drewN (Below.refl W.heap.size W) nq)
    generalize W.drewN nq = V at *
    have c1 := (H1.out.below HWN.out).1.2.1
    go_wp2_with fail
    go_loopw [3] (fun i wr => ∃ k : Nat, k ≤ l.length ∧ i = .int .i64 k ∧ wr.cell? ⟨w.heap.size, 1, none⟩ = some (.slice (some ⟨g9, o9, none⟩) l.length cap) ∧ Hid (Below W.heap.size W wr) ∧ Hid (∀ j, j < k → goodK l j = true)) (fun i _ => l.length - (intOf i).toNat)
    case atStart => exact ⟨0, Nat.zero_le _, rfl, c1, HWN, Lib.hid (fun j hj => absurd hj (Nat.not_lt_zero _))⟩
    case round =>
      clear c1
      obtain ⟨k, hk, rfl, c1, HBW, A⟩ := hrel
      have HBA := Lib.hid (HB.out.trans (HBW.out.mono HB.out.size))
      by_cases hlt : k < l.length
      · have hltz : (k : Int) < (l.length : Int) := by omega
        obtain ⟨x, hx⟩ : ∃ x, l[k]? = some x := ⟨_, List.getElem?_eq_getElem hlt⟩
        have hgk := goodK_at hx
        have HIX := Lib.hid (And.intro (@ix_here l k x hx) (@ix_ahead l k x (by omega)))
        obtain ⟨_, _, hge, x0⟩ := (HV.out.below HBW.out).get hx
        simp only [Option.some.injEq, Addr.mk.injEq, and_true] at hge
        obtain ⟨rfl, rfl⟩ := hge
        have HBAD : Hid (goodK l k = false → R = false) := Lib.hid (fun e => by rw [← HRN.out]; exact mayNs_bad hlt e)
        have HNX : Hid (goodK l k = true → ∀ j, j < k + 1 → goodK l j = true) := Lib.hid (fun e j hj => by
          by_cases ej : j = k
          · rw [ej]; exact e
          · exact A.out j (by omega))
        clear hx
        by_cases hx1 : x < 1
        · obtain rfl : R = false := HBAD.out (by rw [hgk, decide_eq_false (by omega)]; rfl)
          clear hgk HBAD HNX
          go_wp2_with fail
          go_quiet (fail)
          go_wp2_with fail
          go_ret
          exact ⟨rfl, below_drewN HBA.out nq⟩
        have t5 : decide (x < 1) = false := decide_eq_false hx1
        by_cases hx5 : 5 < x
        · obtain rfl : R = false := HBAD.out (by rw [hgk, decide_eq_false (by omega)]; rfl)
          clear hgk HBAD HNX hx1
          go_wp2_with fail
          go_quiet (fail)
          go_wp2_with fail
          go_ret
          exact ⟨rfl, below_drewN HBA.out nq⟩
        have t6 : decide (5 < x) = false := decide_eq_false hx5
        rw [decide_eq_true (show 1 ≤ x ∧ x ≤ 5 by omega), Bool.true_and] at hgk
        clear hx1 hx5
        obtain ⟨⟨q0, q1, q2⟩, _⟩ := H1.out.below HBW.out
        have y1 : Hid (∀ d os, Calls Tryz.prog 16 #[.agg #[.int .i64 e, .slice (some ⟨g9, o9, none⟩) l.length cap, .int .i64 nw], .int .i64 x] (Go.Sort.grow (redrawn wr d) os) fun e w'' => e = .returned (.int .i64 (ixI l x)) ∧ ∃ p : Regrown, w'' = Go.Sort.grow (redrawn wr p.d) p.os) := Lib.hid (fun d os => Calls.regrown_of (spot_p e nw x _ l _ ((HV.out.below HBW.out).below (below_regrown wr d os)) hn))
        have p0 := cell_regrown q0
        have p1 := cell_regrown q1
        have p2 := cell_regrown q2
        have p3 := cell_regrown x0
        cases hc : hasI (l.take k) x with
        | true =>
          have hne := HIX.out.2 hc
          rw [hc] at hgk
          obtain rfl : R = false := HBAD.out (by rw [hgk]; rfl)
          generalize ixI l x = p at *
          have n1 : (p != (k : Int)) = true := by rw [bne_iff_ne]; exact hne
          have n2 : (p == (k : Int)) = false := by rw [beq_eq_false_iff_ne]; exact hne
          clear hgk HBAD HNX hc HIX hne
          go_wp2_with fail
          clear c1 q0 q1 q2 x0
          refine wp_region_quiet_below (by kernel_rfl) (by kernel_rfl) ?_
          repeat (quiet_step ((go_at_call 16; exact y1.out _ _)))
          refine wpQuiet_nil ?_
          intro _ hw'
          obtain ⟨⟨dq, osq⟩, hw''⟩ := hw'
          subst hw''
          have hE := HBA.out.trans ((below_regrown wr dq osq).mono HBA.out.size)
          go_wp2_with fail
          go_ret
          exact ⟨rfl, hE⟩
        | false =>
          have heq := HIX.out.1 hc
          rw [hc] at hgk
          have HN := Lib.hid (HNX.out (by rw [hgk]; rfl))
          rw [heq] at y1
          clear hgk HBAD HNX hc HIX heq
          go_wp2_with fail
          clear c1 q0 q1 q2 x0
          refine wp_region_quiet_below (by kernel_rfl) (by kernel_rfl) ?_
          repeat (quiet_step ((go_at_call 16; exact y1.out _ _)))
          refine wpQuiet_nil ?_
          intro _ hw'
          obtain ⟨⟨dq, osq⟩, hw''⟩ := hw'
          subst hw''
          have hE := HBW.out.trans ((below_regrown wr dq osq).mono HBW.out.size)
          have c1 := p1 dq osq
          clear p0 p1 p2 p3 y1
          go_wp2_with fail
          go_roundw
          case rel => exact ⟨k + 1, by omega, by go_num, c1, Lib.hid hE, HN⟩
          case measure => simp [intOf]; omega
      · have hltz : ¬ (k : Int) < (l.length : Int) := by omega
        obtain rfl : R = true := by rw [← HRN.out]; exact mayNs_yes HLL.out (fun j hj => A.out j (by omega))
        go_wp2_with fail
        go_ret
        exact ⟨rfl, HBA.out⟩

end Go.Proofs.YtmamepmfbfinlaaGreatDoor
