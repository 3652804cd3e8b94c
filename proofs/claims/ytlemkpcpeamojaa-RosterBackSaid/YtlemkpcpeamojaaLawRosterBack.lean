/-
  RosterBack answers true.
-/
import Derived.Test.YtlemkpcpeamojaaRosL
namespace Go.Proofs.Ytlemkpcpeamojaa
open Go.RowKit

set_option maxRecDepth 100000 in
set_option maxHeartbeats 8000000 in
theorem rosterBack_walk (e nw : Int) (v : Value) (l : List Int) (n : Int) (w : World) (h : IsAt w v l) (hn : l.length ≤ 9223372036854775807) :
    Calls Try.prog 8 #[.agg #[.int .i64 e, v, .int .i64 nw], .int .i64 n] w fun r w' => r = .returned (.bool true) ∧ Below w.heap.size w w' := by
  obtain ⟨ad, cap, rfl, _⟩ := h.shape
  have HB0 := Lib.hid (ro_below w e (.slice ad l.length cap) nw 24)
  have HC0 := Lib.hid (cb_new w ⟨e, l, nw⟩ ad cap h)
  have hL7 : (l.take 7).length ≤ 7 := by rw [List.length_take]; omega
  clear h
  go_enter Try.func8, Try.ntmps8
  go_wp2_with fail
  generalize w.alloc (.cells #[.int .i64 e, .slice ad l.length cap, .int .i64 nw] 24) = W at *
  refine (begun9_p W).mono ?_
  rintro _ W1 ⟨rfl, hb⟩
  replace HC0 := Lib.hid (HC0.out.below hb)
  replace HB0 := Lib.hid (HB0.out.trans (hb.mono HB0.out.size))
  clear hb
  obtain ⟨⟨p0, p1, p2⟩, _⟩ := HC0.out.c
  dsimp only at p0 p1 p2
  go_wp2_with fail
  clear p0 p1 p2
  refine (lroster_p e nw _ l W1 HC0.out.v hn).mono ?_
  rintro _ W2 ⟨a2, c2, rfl, ho, hy⟩
  generalize l.take 7 = L at *
  have HP := Lib.hid (box_put HC0.out HB0.out ho hy (e := e) (nw := nw))
  have HC2 := Lib.hid (HC0.out.below hy)
  clear ho hy HC0 HB0
  obtain ⟨⟨p0, p1, p2⟩, f0, f1, f2⟩ := HC2.out.c
  dsimp only at p0 p1 p2
  go_wp2_with fail
  clear p0 p1 p2 f0 f1 f2 HC2
  generalize ((W2.setCell ⟨w.heap.size, 0, none⟩ (.int .i64 e)).setCell ⟨w.heap.size, 1, none⟩ (.slice a2 L.length c2)).setCell ⟨w.heap.size, 2, none⟩ (.int .i64 nw) = V at *
  have HC := Lib.hid HP.out.1
  have HO := Lib.hid HP.out.2.1
  have HB := Lib.hid HP.out.2.2
  clear HP
  have HM := rmayr_p e nw _ L V HC.out.v (by omega)
  cases hm : mayR ⟨e, L, nw⟩ with
  | false =>
    rw [hm] at HM
    have HM := Lib.hid HM
    refine HM.out.mono ?_
    rintro _ V2 ⟨rfl, hb⟩
    have HB2 := Lib.hid (HB.out.trans (hb.mono HB.out.size))
    clear hb HM
    go_wp2_with fail
    go_ret
    exact ⟨rfl, HB2.out⟩
  | true =>
  rw [hm] at HM
  have HM := Lib.hid HM
  refine HM.out.mono ?_
  rintro _ V2 ⟨rfl, hb⟩
  replace HC := Lib.hid (HC.out.below hb)
  replace HB := Lib.hid (HB.out.trans (hb.mono HB.out.size))
  clear hb HM HO
  obtain ⟨⟨p0, p1, p2⟩, _⟩ := HC.out.c
  dsimp only at p0 p1 p2
  have hlen := mayR_len hm
  by_cases h39 : 549755813888 < e
  · clear hm hlen
    go_wp2_with fail
    go_ret
    exact ⟨rfl, HB.out⟩
  have t39 : decide (549755813888 < e) = false := decide_eq_false h39
  have hwe : IntKind.i64.wrap (e + 2) = e + 2 := IntWalk.i64_in _ (by omega)
  have HE := Lib.hid (show 1 ≤ e ∧ e < 1099511627775 ∧ 1 ≤ L.length ∧ L.length ≤ 5 by omega)
  have HMR := Lib.hid hm
  clear h39 hlen hm
  have HAD := Lib.hid (add_p e nw n _ L V2 HC.out.v (by omega))
  go_wp2_with fail
  clear t39
  by_cases hok : nw = 0 ∧ (1 ≤ n ∧ n ≤ 5) ∧ hasI L n = false
  case neg =>
    refine HAD.out.mono ?_
    have hno : addR ⟨e, L, nw⟩ n = (Ro.zero, false) := add_no HMR.out (by
      by_cases h1 : nw = 0
      · by_cases h2 : 1 ≤ n ∧ n ≤ 5
        · refine .inr (.inr ?_)
          cases h3 : hasI L n with
          | true => rfl
          | false => exact absurd ⟨h1, h2, h3⟩ hok
        · exact .inr (.inl h2)
      · exact .inl h1)
    rw [hno]
    rintro _ W4 ⟨aa, ca, rfl, ho, hy⟩
    dsimp only [Ro.zero] at ho ⊢
    simp only [List.length_nil] at ho ⊢
    have hb : Below V2.heap.size V2 (W4.alloc (.cells #[.int .i64 0, .slice aa 0 ca, .int .i64 0] 24)) := hy.alloc hy.size _
    replace HC := Lib.hid (HC.out.below hb)
    replace HB := Lib.hid (HB.out.trans (hb.mono HB.out.size))
    clear hy hb ho p0 p1 p2 HAD hno
    obtain ⟨⟨p0, p1, p2⟩, _⟩ := HC.out.c
    dsimp only at p0 p1 p2
    have HH := Lib.hid (has_p e nw n _ L _ HC.out.v (by omega))
    by_cases hz : nw = 0
    case neg =>
      have z1 : (nw != 0) = true := by rw [bne_iff_ne]; exact hz
      have z2 : (nw == 0) = false := by rw [beq_eq_false_iff_ne]; exact hz
      clear hz hok
      go_wp2_with fail
      go_ret
      exact ⟨rfl, HB.out⟩
    have z1 : (nw != 0) = false := by rw [bne_eq_false_iff_eq]; exact hz
    have z2 : (nw == 0) = true := beq_iff_eq.2 hz
    cases hh : hasI L n with
    | true =>
      rw [hh] at HH
      clear hz hok
      go_wp2_with fail
      refine HH.out.mono ?_
      rintro _ V5 ⟨rfl, hb⟩
      have HB5 := Lib.hid (HB.out.trans (hb.mono HB.out.size))
      clear hb HH
      go_wp2_with fail
      go_ret
      exact ⟨rfl, HB5.out⟩
    | false =>
      rw [hh] at HH
      by_cases h1 : n < 1
      · clear hz hok
        go_wp2_with fail
        refine HH.out.mono ?_
        rintro _ V5 ⟨rfl, hb⟩
        have HB5 := Lib.hid (HB.out.trans (hb.mono HB.out.size))
        clear hb HH
        go_wp2_with fail
        go_ret
        exact ⟨rfl, HB5.out⟩
      have t1 : decide (n < 1) = false := decide_eq_false h1
      have t5 : 5 < n := by
        by_cases h5 : 5 < n
        · exact h5
        · exact absurd ⟨hz, ⟨by omega, by omega⟩, hh⟩ hok
      clear hz hok h1
      go_wp2_with fail
      refine HH.out.mono ?_
      rintro _ V5 ⟨rfl, hb⟩
      have HB5 := Lib.hid (HB.out.trans (hb.mono HB.out.size))
      clear hb HH
      go_wp2_with fail
      go_ret
      exact ⟨rfl, HB5.out⟩
  obtain ⟨rfl, hn5, hno⟩ := hok
  have hyes := (add_yes HMR.out (by have := HE.out; omega) hn5 hno).1
  have hdl := drop_last HMR.out HE.out.2.1 hn5 hno
  refine HAD.out.mono ?_
  rw [hyes]
  rintro _ W4 ⟨aa, ca, rfl, ho, hy⟩
  dsimp only at ho ⊢
  have hll : (L ++ [n]).length ≤ 8 := by simp; omega
  generalize L ++ [n] = LA at *
  have hb : Below V2.heap.size V2 (W4.alloc (.cells #[.int .i64 (e + 1), .slice aa LA.length ca, .int .i64 n] 24)) := hy.alloc hy.size _
  replace HC := Lib.hid (HC.out.below hb)
  replace HB := Lib.hid (HB.out.trans (hb.mono HB.out.size))
  have HA : Hid (RC (W4.alloc (.cells #[.int .i64 (e + 1), .slice aa LA.length ca, .int .i64 n] 24)) W4.heap.size (e + 1) (.slice aa LA.length ca) n ∧ IsAt (W4.alloc (.cells #[.int .i64 (e + 1), .slice aa LA.length ca, .int .i64 n] 24)) (.slice aa LA.length ca) LA) := Lib.hid ⟨RC.new W4 (e + 1) aa LA.length ca n _, (ho.below ((Below.refl _ _).alloc (Nat.le_refl _) _)).at⟩
  clear hy hb ho p0 p1 p2 HAD hyes
  obtain ⟨⟨p0, p1, p2⟩, _⟩ := HA.out.1
  go_wp2_with fail
  generalize (W4.alloc (.cells #[.int .i64 (e + 1), .slice aa LA.length ca, .int .i64 n] 24)) = V4 at *
  generalize W4.heap.size = S4 at *
  refine (drop_p (e + 1) n n _ LA V4 HA.out.2 (by omega)).mono ?_
  rw [hdl]
  rintro _ W5 ⟨ab, cb, rfl, ho, hy⟩
  dsimp only at ho ⊢
  have hb : Below V4.heap.size V4 (W5.alloc (.cells #[.int .i64 (e + 2), .slice ab L.length cb, .int .i64 0] 24)) := hy.alloc hy.size _
  replace HC := Lib.hid (HC.out.below hb)
  replace HB := Lib.hid (HB.out.trans (hb.mono HB.out.size))
  have HD : Hid (RC (W5.alloc (.cells #[.int .i64 (e + 2), .slice ab L.length cb, .int .i64 0] 24)) W5.heap.size (e + 2) (.slice ab L.length cb) 0 ∧ IsAt (W5.alloc (.cells #[.int .i64 (e + 2), .slice ab L.length cb, .int .i64 0] 24)) (.slice ab L.length cb) L) := Lib.hid ⟨RC.new W5 (e + 2) ab L.length cb 0 _, (ho.below ((Below.refl _ _).alloc (Nat.le_refl _) _)).at⟩
  clear hy hb ho p0 p1 p2 HA hdl
  obtain ⟨⟨p0, p1, p2⟩, _⟩ := HC.out.c
  obtain ⟨⟨q0, q1, q2⟩, _⟩ := HD.out.1
  dsimp only at p0 p1 p2
  go_wp2_with fail
  clear p0 p1 p2 q0 q1 q2
  generalize (W5.alloc (.cells #[.int .i64 (e + 2), .slice ab L.length cb, .int .i64 0] 24)) = V5 at *
  generalize W5.heap.size = S5 at *
  go_loopw [10] (fun iv wr => ∃ k : Nat, k ≤ L.length ∧ iv = .int .i64 k ∧ Hid (CB wr w.heap.size ⟨e, L, 0⟩ a2 L.length c2) ∧ Hid (RC wr S5 (e + 2) (.slice ab L.length cb) 0 ∧ IsAt wr (.slice ab L.length cb) L) ∧ Hid (Below w.heap.size w wr)) (fun iv _ => L.length - (intOf iv).toNat)
  case atStart => exact ⟨0, Nat.zero_le _, rfl, HC, HD, HB⟩
  case round =>
    obtain ⟨k, hk, rfl, HCW, HDW, HBW⟩ := hrel
    obtain ⟨⟨p0, p1, p2⟩, _⟩ := HCW.out.c
    obtain ⟨⟨q0, q1, q2⟩, _⟩ := HDW.out.1
    dsimp only at p0 p1 p2
    by_cases hlt : k < L.length
    · have hltz : (k : Int) < (L.length : Int) := by omega
      obtain ⟨x, hx⟩ : ∃ x, L[k]? = some x := ⟨_, List.getElem?_eq_getElem hlt⟩
      obtain ⟨g, o, rfl, x0⟩ := HCW.out.v.get hx
      obtain ⟨g', o', rfl, y0⟩ := HDW.out.2.get hx
      clear hx
      go_wp2_with fail
      go_quiet (fail)
      have hd : Below wr.heap.size wr (wr.drewN nq) := below_drewN (Below.refl wr.heap.size wr) nq
      have HC3 := Lib.hid (HCW.out.below hd)
      have HD3 := Lib.hid (And.intro (HDW.out.1.below hd) (HDW.out.2.below hd))
      have HB3 := Lib.hid (below_drewN HBW.out nq)
      clear p0 p1 p2 q0 q1 q2 x0 y0 hd
      go_wp2_with fail
      go_roundw
      case rel => exact ⟨k + 1, by omega, by go_num, HC3, HD3, HB3⟩
      case measure => simp [intOf]; omega
    · have hltz : ¬ (k : Int) < (L.length : Int) := by omega
      go_wp2_with fail
      go_ret
      exact ⟨rfl, HBW.out⟩

end Go.Proofs.Ytlemkpcpeamojaa
