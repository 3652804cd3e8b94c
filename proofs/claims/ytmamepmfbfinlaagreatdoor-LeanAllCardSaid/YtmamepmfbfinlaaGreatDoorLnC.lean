/-
  The contract of the reference's Pick.
-/
import Derived.Test.YtmamepmfbfinlaaGreatDoorLnB
namespace Go.Proofs.YtmamepmfbfinlaaGreatDoor
open Go.RowKit Go.Proofs.Cpl

theorem pkS_zero (wt : Int → Int) (n : Int) : pkS wt 0 n = n := by unfold pkS; rw [if_pos (.inl rfl)]

theorem pkS_more {wt : Int → Int} {b n : Int} (h : wt b < wt n) : pkS wt b n = n := by unfold pkS; rw [if_pos (.inr h)]

theorem pkS_less {wt : Int → Int} {b n : Int} (hb : b ≠ 0) (h : ¬ wt b < wt n) : pkS wt b n = b := by
  unfold pkS
  rw [if_neg]
  rintro (h1 | h1)
  · exact hb h1
  · exact h h1

set_option maxRecDepth 100000 in
set_option maxHeartbeats 8000000 in
theorem rPick_p (e nw : Int) (v : Value) (l : List Int) (s : ByteArray) (hs : s.size ≤ maxLen) (w : World) (h : IsAt w v l) (hn : l.length ≤ 1000) :
    Calls Tryz.prog 12 #[.agg #[.int .i64 e, v, .int .i64 nw], .string s] w fun r w' => r = .returned (.int .i64 (pickI (mkI s) l nw)) ∧ Below w.heap.size w w' := by
  obtain ⟨ad, cap, rfl, _⟩ := h.shape
  have HB0 := Lib.hid (ro_below w e (.slice ad l.length cap) nw 24)
  have h1 := RC.new w e ad l.length cap nw 24
  have HV := Lib.hid (h.below HB0.out)
  have HWT := Lib.hid (fun n => rweight_p n s hs)
  clear h hs
  go_enter Tryz.func12, Tryz.ntmps12
  go_wp2_with fail
  generalize (w.alloc (.cells #[.int .i64 e, .slice ad l.length cap, .int .i64 nw] 24)) = W at *
  have HR : Hid (RC W w.heap.size e (.slice ad l.length cap) nw ∧ IsAt W (.slice ad l.length cap) l ∧ Below w.heap.size w W) := Lib.hid ⟨h1, HV.out, HB0.out⟩
  clear h1 HV HB0
  go_loopw [5, 6] (fun v5 v6 wr => ∃ k : Nat, k ≤ 5 ∧ v5 = .int .i64 (pkI (wtI (mkI s)) (choK l nw k)) ∧ v6 = .int .i64 ((k : Int) + 1) ∧ Hid (Below W.heap.size W wr)) (fun _ v6 _ => 6 - (intOf v6).toNat)
  case atStart => exact ⟨0, by omega, rfl, rfl, Lib.hid (Below.refl _ _)⟩
  case round =>
    obtain ⟨k, hk, rfl, rfl, HI⟩ := hrel
    have HQ : Hid (RC wr w.heap.size e (.slice ad l.length cap) nw ∧ IsAt wr (.slice ad l.length cap) l ∧ Below w.heap.size w wr) := Lib.hid ⟨HR.out.1.kept (HI.out.block _ HR.out.1.lt), HR.out.2.1.below HI.out, HR.out.2.2.trans (HI.out.mono HR.out.2.2.size)⟩
    obtain ⟨⟨c0, c1, c2⟩, _⟩ := HQ.out.1
    have hwr : IntKind.i64.wrap ((k : Int) + 1 + 1) = (((k + 1 : Nat) : Int) + 1) := by rw [IntWalk.i64_in _ (by omega)]; omega
    by_cases hlt : k < 5
    · have hltz : (k : Int) + 1 ≤ 5 := by omega
      have HS := spot_p e nw ((k : Int) + 1) _ l wr HQ.out.2.1 hn
      cases hh : hasI l ((k : Int) + 1) with
      | false =>
        have HN := Lib.hid (choK_no l nw k hlt (.inr hh))
        have hge : ¬ 0 ≤ ixI l ((k : Int) + 1) := by
          unfold hasI at hh
          exact of_decide_eq_false hh
        generalize ixI l ((k : Int) + 1) = j at *
        replace HS := Lib.hid HS
        clear hh
        go_wp2_with fail
        refine HS.out.mono ?_
        rintro _ w2 ⟨rfl, hb2⟩
        have H2 : Hid (Below W.heap.size W w2) := Lib.hid (HI.out.trans (hb2.mono HI.out.size))
        clear hb2 c0 c1 c2
        go_wp2_with fail
        go_roundw
        case rel => exact ⟨k + 1, by omega, by rw [HN.out], by first | rfl | go_num, H2⟩
        case measure => simp [intOf]; omega
      | true =>
        have hge : 0 ≤ ixI l ((k : Int) + 1) := by
          unfold hasI at hh
          exact of_decide_eq_true hh
        by_cases hq : (k : Int) + 1 = nw
        · have HN := Lib.hid (choK_no l nw k hlt (.inl hq))
          have hqb : ((k : Int) + 1 != nw) = false := by rw [bne_eq_false_iff_eq]; exact hq
          generalize ixI l ((k : Int) + 1) = j at *
          replace HS := Lib.hid HS
          clear hq hh
          go_wp2_with fail
          refine HS.out.mono ?_
          rintro _ w2 ⟨rfl, hb2⟩
          have H2 : Hid (Below W.heap.size W w2) := Lib.hid (HI.out.trans (hb2.mono HI.out.size))
          have HQ2 : Hid (RC w2 w.heap.size e (.slice ad l.length cap) nw) := Lib.hid (HQ.out.1.kept (hb2.block _ HQ.out.1.lt))
          clear hb2 c0 c1 c2
          obtain ⟨⟨d0, d1, d2⟩, _⟩ := HQ2.out
          go_wp2_with fail
          go_roundw
          case rel => exact ⟨k + 1, by omega, by rw [HN.out], by first | rfl | go_num, H2⟩
          case measure => simp [intOf]; omega
        · have HY : Hid (pkI (wtI (mkI s)) (choK l nw (k + 1)) = pkS (wtI (mkI s)) (pkI (wtI (mkI s)) (choK l nw k)) ((k : Int) + 1)) := Lib.hid (by rw [choK_yes l nw k hlt hq hh, pkI_snoc])
          have hqb : ((k : Int) + 1 != nw) = true := by rw [bne_iff_ne]; exact hq
          generalize pkI (wtI (mkI s)) (choK l nw k) = b at *
          generalize ixI l ((k : Int) + 1) = j at *
          replace HS := Lib.hid HS
          clear hq hh
          by_cases hb0 : b = 0
          · subst hb0
            have HP : Hid (pkI (wtI (mkI s)) (choK l nw (k + 1)) = (k : Int) + 1) := Lib.hid (by rw [HY.out, pkS_zero])
            go_wp2_with fail
            refine HS.out.mono ?_
            rintro _ w2 ⟨rfl, hb2⟩
            have H2 : Hid (Below W.heap.size W w2) := Lib.hid (HI.out.trans (hb2.mono HI.out.size))
            have HQ2 : Hid (RC w2 w.heap.size e (.slice ad l.length cap) nw) := Lib.hid (HQ.out.1.kept (hb2.block _ HQ.out.1.lt))
            clear hb2 c0 c1 c2
            obtain ⟨⟨d0, d1, d2⟩, _⟩ := HQ2.out
            go_wp2_with fail
            go_roundw
            case rel => exact ⟨k + 1, by omega, by rw [HP.out], by first | rfl | go_num, H2⟩
            case measure => simp [intOf]; omega
          · have hbb : (b == 0) = false := by rw [beq_eq_false_iff_ne]; exact hb0
            by_cases hm : wtI (mkI s) b < wtI (mkI s) ((k : Int) + 1)
            · have HP : Hid (pkI (wtI (mkI s)) (choK l nw (k + 1)) = (k : Int) + 1) := Lib.hid (by rw [HY.out, pkS_more hm])
              clear hb0
              have HW1 := Lib.hid (HWT.out ((k : Int) + 1))
              have HW2 := Lib.hid (HWT.out b)
              generalize wtI (mkI s) b = X at *
              generalize wtI (mkI s) ((k : Int) + 1) = Y at *
              go_wp2_with fail
              refine HS.out.mono ?_
              rintro _ w2 ⟨rfl, hb2⟩
              have H2 : Hid (Below W.heap.size W w2) := Lib.hid (HI.out.trans (hb2.mono HI.out.size))
              have HQ2 : Hid (RC w2 w.heap.size e (.slice ad l.length cap) nw) := Lib.hid (HQ.out.1.kept (hb2.block _ HQ.out.1.lt))
              clear hb2 c0 c1 c2
              obtain ⟨⟨d0, d1, d2⟩, _⟩ := HQ2.out
              go_wp2_with fail
              refine (HW1.out w2).mono ?_
              rintro _ w3 ⟨rfl, hb3⟩
              have H3 : Hid (Below W.heap.size W w3) := Lib.hid (H2.out.trans (hb3.mono H2.out.size))
              clear hb3 d0 d1 d2
              go_wp2_with fail
              refine (HW2.out w3).mono ?_
              rintro _ w4 ⟨rfl, hb4⟩
              have H4 : Hid (Below W.heap.size W w4) := Lib.hid (H3.out.trans (hb4.mono H3.out.size))
              clear hb4
              go_wp2_with fail
              go_roundw
              case rel => exact ⟨k + 1, by omega, by rw [HP.out], by first | rfl | go_num, H4⟩
              case measure => simp [intOf]; omega
            · have HP : Hid (pkI (wtI (mkI s)) (choK l nw (k + 1)) = b) := Lib.hid (by rw [HY.out, pkS_less hb0 hm])
              clear hb0
              have HW1 := Lib.hid (HWT.out ((k : Int) + 1))
              have HW2 := Lib.hid (HWT.out b)
              generalize wtI (mkI s) b = X at *
              generalize wtI (mkI s) ((k : Int) + 1) = Y at *
              go_wp2_with fail
              refine HS.out.mono ?_
              rintro _ w2 ⟨rfl, hb2⟩
              have H2 : Hid (Below W.heap.size W w2) := Lib.hid (HI.out.trans (hb2.mono HI.out.size))
              have HQ2 : Hid (RC w2 w.heap.size e (.slice ad l.length cap) nw) := Lib.hid (HQ.out.1.kept (hb2.block _ HQ.out.1.lt))
              clear hb2 c0 c1 c2
              obtain ⟨⟨d0, d1, d2⟩, _⟩ := HQ2.out
              go_wp2_with fail
              refine (HW1.out w2).mono ?_
              rintro _ w3 ⟨rfl, hb3⟩
              have H3 : Hid (Below W.heap.size W w3) := Lib.hid (H2.out.trans (hb3.mono H2.out.size))
              clear hb3 d0 d1 d2
              go_wp2_with fail
              refine (HW2.out w3).mono ?_
              rintro _ w4 ⟨rfl, hb4⟩
              have H4 : Hid (Below W.heap.size W w4) := Lib.hid (H3.out.trans (hb4.mono H3.out.size))
              clear hb4
              go_wp2_with fail
              go_roundw
              case rel => exact ⟨k + 1, by omega, by rw [HP.out], by first | rfl | go_num, H4⟩
              case measure => simp [intOf]; omega
    · obtain rfl : k = 5 := by omega
      have HE := Lib.hid HQ.out.2.2
      clear c0 c1 c2 HQ
      go_wp2_with fail
      go_ret
      exact ⟨rfl, HE.out⟩

end Go.Proofs.YtmamepmfbfinlaaGreatDoor
