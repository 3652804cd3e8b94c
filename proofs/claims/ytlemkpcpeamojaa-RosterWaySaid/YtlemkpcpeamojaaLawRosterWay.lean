/-
  RosterWay answers true.
-/
import Derived.Test.YtlemkpcpeamojaaRosK
namespace Go.Proofs.Ytlemkpcpeamojaa
open Go.RowKit

set_option maxRecDepth 100000 in
set_option maxHeartbeats 8000000 in
theorem rosterWay_walk (e nw : Int) (v : Value) (l : List Int) (w : World) (h : IsAt w v l) (hn : l.length ≤ 9223372036854775807) :
    Calls Try.prog 5 #[.agg #[.int .i64 e, v, .int .i64 nw]] w fun r w' => r = .returned (.bool true) ∧ Below w.heap.size w w' := by
  obtain ⟨ad, cap, rfl, _⟩ := h.shape
  have HB0 := Lib.hid (ro_below w e (.slice ad l.length cap) nw 24)
  have HC0 := Lib.hid (cb_new w ⟨e, l, nw⟩ ad cap h)
  have hL7 : (l.take 7).length ≤ 7 := by rw [List.length_take]; omega
  clear h
  go_enter Try.func5, Try.ntmps5
  go_wp2_with fail
  generalize w.alloc (.cells #[.int .i64 e, .slice ad l.length cap, .int .i64 nw] 24) = W at *
  refine (begun9_p W).mono ?_
  rintro _ W1 ⟨rfl, hb⟩
  replace HC0 := Lib.hid (HC0.out.below hb)
  replace HB0 := Lib.hid (HB0.out.trans (hb.mono HB0.out.size))
  clear hb
  obtain ⟨⟨p0, p1, p2⟩, _⟩ := HC0.out.c
  dsimp only at p0 p1 p2
  go_wp2_with fail
  clear p0 p1 p2
  refine (lroster_p e nw _ l W1 HC0.out.v hn).mono ?_
  rintro _ W2 ⟨a2, c2, rfl, ho, hy⟩
  generalize l.take 7 = L at *
  have HP := Lib.hid (box_put HC0.out HB0.out ho hy (e := e) (nw := nw))
  have HC2 := Lib.hid (HC0.out.below hy)
  clear ho hy HC0 HB0
  obtain ⟨⟨p0, p1, p2⟩, f0, f1, f2⟩ := HC2.out.c
  dsimp only at p0 p1 p2
  go_wp2_with fail
  clear p0 p1 p2 f0 f1 f2 HC2
  generalize ((W2.setCell ⟨w.heap.size, 0, none⟩ (.int .i64 e)).setCell ⟨w.heap.size, 1, none⟩ (.slice a2 L.length c2)).setCell ⟨w.heap.size, 2, none⟩ (.int .i64 nw) = V at *
  have HC := Lib.hid HP.out.1
  have HO := Lib.hid HP.out.2.1
  have HB := Lib.hid HP.out.2.2
  clear HP
  obtain ⟨⟨p0, p1, p2⟩, _⟩ := HC.out.c
  dsimp only at p0 p1 p2
  have HM := Lib.hid (rmayr_p e nw _ L V HO.out.at (by omega))
  cases hm : mayR ⟨e, L, nw⟩ with
  | false =>
    rw [hm] at HM
    go_wp2_with fail
    refine HM.out.mono ?_
    rintro _ V1 ⟨rfl, hb⟩
    have HC1 := Lib.hid (HC.out.below hb)
    have HB1 := Lib.hid (HB.out.trans (hb.mono HB.out.size))
    clear hb HM p0 p1 p2
    obtain ⟨⟨p0, p1, p2⟩, _⟩ := HC1.out.c
    dsimp only at p0 p1 p2
    have HM2 := may_p e nw _ L V1 HC1.out.v (by omega)
    rw [hm] at HM2
    have HM2 := Lib.hid HM2
    go_wp2_with fail
    refine HM2.out.mono ?_
    rintro _ V2 ⟨rfl, hb⟩
    have HB2 := Lib.hid (HB1.out.trans (hb.mono HB1.out.size))
    clear hb HM2
    go_wp2_with fail
    go_ret
    exact ⟨rfl, HB2.out⟩
  | true =>
  rw [hm] at HM
  have hlen := mayR_len hm
  have hns := (mayR_ns hm).1
  have HNS := Lib.hid hns
  have hLn : 1 ≤ L.length ∧ L.length ≤ 5 := hlen.2.2
  clear hm hlen hns
  go_wp2_with fail
  refine HM.out.mono ?_
  rintro _ V1 ⟨rfl, hb⟩
  have HC1 := Lib.hid (HC.out.below hb)
  have HB1 := Lib.hid (HB.out.trans (hb.mono HB.out.size))
  clear hb HM p0 p1 p2 HC HO HB
  obtain ⟨⟨p0, p1, p2⟩, _⟩ := HC1.out.c
  dsimp only at p0 p1 p2
  have HH := head_p e nw _ L V1 HC1.out.v
  obtain ⟨G0, hG0⟩ : ∃ G0, getI L 0 = G0 := ⟨_, rfl⟩
  rw [hG0] at HH
  have HG0 : Hid (G0 = getI L ((0 : Nat) : Int)) := Lib.hid hG0.symm
  have HH := Lib.hid HH
  clear hG0
  go_wp2_with fail
  refine HH.out.mono ?_
  rintro _ V2 ⟨rfl, hb⟩
  have HC2 := Lib.hid (HC1.out.below hb)
  have HB2 := Lib.hid (HB1.out.trans (hb.mono HB1.out.size))
  clear hb HH p0 p1 p2 HC1 HB1
  go_wp2_with fail
  go_loopw [4, 5] (fun nv iv wr => ∃ (i : Nat) (z : Int), iv = .int .i64 i ∧ nv = .int .i64 z ∧ i ≤ L.length ∧ Hid (z = getI L (i : Int)) ∧ Hid (CB wr w.heap.size ⟨e, L, nw⟩ a2 L.length c2) ∧ Hid (Below w.heap.size w wr)) (fun _ iv _ => L.length - (intOf iv).toNat)
  case atStart => exact ⟨0, G0, rfl, rfl, Nat.zero_le _, HG0, HC2, HB2⟩
  case round =>
    obtain ⟨i, z, rfl, rfl, hi, hz, HCW, HBW⟩ := hrel
    obtain ⟨⟨p0, p1, p2⟩, _⟩ := HCW.out.c
    dsimp only at p0 p1 p2
    by_cases hlt : i < L.length
    · have hltz : (i : Int) < (L.length : Int) := by omega
      obtain ⟨x, hx⟩ : ∃ x, L[i]? = some x := ⟨_, List.getElem?_eq_getElem hlt⟩
      have hzx : z = x := by rw [hz.out]; exact getI_at hx
      subst hzx
      obtain ⟨g, o, rfl, x0⟩ := HCW.out.v.get hx
      have HNX := Lib.hid (next_at HNS.out hx)
      have HAH := Lib.hid (ahead_at HNS.out hx)
      clear hx hz
      by_cases hi0 : i = 0
      · subst hi0
        have x0 : wr.cell? ⟨g, o, none⟩ = some (.int .i64 z) := x0
        go_wp2_with fail
        go_quiet (fail)
        have HC3 := Lib.hid (HCW.out.below (below_drewN (Below.refl wr.heap.size wr) nq))
        have HB3 := Lib.hid (below_drewN HBW.out nq)
        clear p0 p1 p2 x0
        generalize wr.drewN nq = V3 at *
        obtain ⟨⟨p0, p1, p2⟩, _⟩ := HC3.out.c
        dsimp only at p0 p1 p2
        have HN := Lib.hid (next_p e nw z _ L V3 HC3.out.v (by omega))
        have HNX' := HNX.out
        generalize nextI L z = nx at *
        go_wp2_with fail
        refine HN.out.mono ?_
        rintro _ V4 ⟨rfl, hb⟩
        have HC4 := Lib.hid (HC3.out.below hb)
        have HB4 := Lib.hid (HB3.out.trans (hb.mono HB3.out.size))
        have HZ := Lib.hid HNX'
        clear hb HN p0 p1 p2 HNX'
        go_wp2_with fail
        go_roundw
        case rel => exact ⟨1, nx, by go_num, rfl, by omega, HZ, HC4, HB4⟩
        case measure => simp [intOf]; omega
      · obtain ⟨y, hy⟩ : ∃ y, L[i - 1]? = some y := ⟨_, List.getElem?_eq_getElem (by omega)⟩
        have hay : aheadI L z = y := by
          rw [HAH.out]
          have e : (i : Int) - 1 = ((i - 1 : Nat) : Int) := by omega
          rw [e]
          exact getI_at hy
        have h0z : (0 : Int) < (i : Int) := by omega
        have h0n : 0 < i := by omega
        have hwi : IntKind.i64.wrap ((i : Int) - 1) = ((i - 1 : Nat) : Int) := by
          have e : (i : Int) - 1 = ((i - 1 : Nat) : Int) := by omega
          rw [e]
          exact IntWalk.i64_in _ (by omega)
        obtain ⟨k, hk⟩ : ∃ k, i - 1 = k := ⟨_, rfl⟩
        rw [hk] at hy hwi
        have hkl : k < L.length := by omega
        have hklz : (k : Int) < (L.length : Int) := by omega
        obtain ⟨g', o', hge, y0⟩ := HCW.out.v.get hy
        simp only [Option.some.injEq, Addr.mk.injEq, and_true] at hge
        obtain ⟨rfl, rfl⟩ := hge
        have HAP : Hid (∀ Y, Below wr.heap.size wr Y → Calls Try.prog 25 #[.agg #[.int .i64 e, .slice (some ⟨g, o, none⟩) L.length c2, .int .i64 nw], .int .i64 z] Y fun r w' => r = .returned (.int .i64 y) ∧ Below Y.heap.size Y w') := Lib.hid (fun Y hY => by
          have := ahead_p e nw z _ L Y (HCW.out.v.below hY) (by omega)
          rw [hay] at this
          exact this)
        clear hy hk hay
        have y1 : Hid (∀ d os, Calls Try.prog 25 #[.agg #[.int .i64 e, .slice (some ⟨g, o, none⟩) L.length c2, .int .i64 nw], .int .i64 z] (Go.Sort.grow (redrawn wr d) os) fun e w'' => e = .returned (.int .i64 y) ∧ ∃ p : Regrown, w'' = Go.Sort.grow (redrawn wr p.d) p.os) := Lib.hid (fun d os => Calls.regrown_of (HAP.out _ (below_regrown wr d os)))
        have q0 := cell_regrown p0
        have q1 := cell_regrown p1
        have q2 := cell_regrown p2
        have r0 := cell_regrown x0
        have r1 := cell_regrown y0
        go_wp2_with fail
        clear p0 p1 p2 x0 y0
        refine wp_region_quiet_below (by kernel_rfl) (by kernel_rfl) ?_
        repeat (quiet_step ((go_at_call 25; exact y1.out _ _)))
        refine wpQuiet_nil ?_
        intro _ hw'
        obtain ⟨⟨dq, osq⟩, hw''⟩ := hw'
        subst hw''
        have HC3 := Lib.hid (HCW.out.below (below_regrown wr dq osq))
        have HB3 := Lib.hid (HBW.out.trans ((below_regrown wr dq osq).mono HBW.out.size))
        clear q0 q1 q2 r0 r1 y1
        generalize Go.Sort.grow (redrawn wr dq) osq = V3 at *
        obtain ⟨⟨p0, p1, p2⟩, _⟩ := HC3.out.c
        dsimp only at p0 p1 p2
        have HN := Lib.hid (next_p e nw z _ L V3 HC3.out.v (by omega))
        have HNX' := HNX.out
        generalize nextI L z = nx at *
        go_wp2_with fail
        refine HN.out.mono ?_
        rintro _ V4 ⟨rfl, hb⟩
        have HC4 := Lib.hid (HC3.out.below hb)
        have HB4 := Lib.hid (HB3.out.trans (hb.mono HB3.out.size))
        have HZ := Lib.hid HNX'
        clear hb HN p0 p1 p2 HNX'
        go_wp2_with fail
        go_roundw
        case rel => exact ⟨i + 1, nx, by go_num, rfl, by omega, HZ, HC4, HB4⟩
        case measure => simp [intOf]; omega
    · have hltz : ¬ (i : Int) < (L.length : Int) := by omega
      have hz0 : z = 0 := by rw [hz.out]; exact getI_out (by omega)
      subst hz0
      obtain ⟨k, hk⟩ : ∃ k, L.length = k + 1 := ⟨L.length - 1, by omega⟩
      obtain ⟨x, hx⟩ : ∃ x, L[k]? = some x := ⟨_, List.getElem?_eq_getElem (by omega)⟩
      have htl := getI_last hk hx
      obtain ⟨g, o, rfl, x0⟩ := HCW.out.v.get hx
      have hwl : IntKind.i64.wrap ((L.length : Int) - 1) = (k : Int) := by
        have e : (L.length : Int) - 1 = (k : Int) := by omega
        rw [e]
        exact IntWalk.i64_in _ (by omega)
      have hkl : k < L.length := by omega
      have hklz : (k : Int) < (L.length : Int) := by omega
      have HAP : Hid (∀ Y, Below wr.heap.size wr Y → Calls Try.prog 22 #[.agg #[.int .i64 e, .slice (some ⟨g, o, none⟩) L.length c2, .int .i64 nw]] Y fun r w' => r = .returned (.int .i64 x) ∧ Below Y.heap.size Y w') := Lib.hid (fun Y hY => by
        have := tail_p e nw _ L Y (HCW.out.v.below hY) (by omega)
        rw [htl] at this
        exact this)
      clear hk hx htl
      have y1 : Hid (∀ d os, Calls Try.prog 22 #[.agg #[.int .i64 e, .slice (some ⟨g, o, none⟩) L.length c2, .int .i64 nw]] (Go.Sort.grow (redrawn wr d) os) fun e w'' => e = .returned (.int .i64 x) ∧ ∃ p : Regrown, w'' = Go.Sort.grow (redrawn wr p.d) p.os) := Lib.hid (fun d os => Calls.regrown_of (HAP.out _ (below_regrown wr d os)))
      have q0 := cell_regrown p0
      have q1 := cell_regrown p1
      have q2 := cell_regrown p2
      have r0 := cell_regrown x0
      go_wp2_with fail
      clear p0 p1 p2 x0
      refine wp_region_quiet_below (by kernel_rfl) (by kernel_rfl) ?_
      repeat (quiet_step ((go_at_call 22; exact y1.out _ _)))
      refine wpQuiet_nil ?_
      intro _ hw'
      obtain ⟨⟨dq, osq⟩, hw''⟩ := hw'
      subst hw''
      have hE := HBW.out.trans ((below_regrown wr dq osq).mono HBW.out.size)
      go_wp2_with fail
      go_ret
      exact ⟨rfl, hE⟩

end Go.Proofs.Ytlemkpcpeamojaa
