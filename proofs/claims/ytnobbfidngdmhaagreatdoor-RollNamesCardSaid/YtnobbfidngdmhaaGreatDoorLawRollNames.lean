/-
  RollNames answers true.
-/
import Derived.Test.YtnobbfidngdmhaaGreatDoorLawRollCall
import Derived.Test.YtnobbfidngdmhaaGreatDoorDigits
namespace Go.Proofs.YtnobbfidngdmhaaGreatDoor
open Go.RowKit Go.Maps Go.Proofs.MapD Go.Proofs.Chest

def nm0 : St := ⟨10, [(⟨#[65]⟩, ⟨⟨#[]⟩, 0, false⟩)]⟩
theorem nm_new : (⟨(min (max (10 : Int) 0) 1048576).toNat, []⟩ : St) = ⟨10, []⟩ := by kernel_rfl
theorem nm_w : write ⟨10, []⟩ ⟨#[65]⟩ ⟨#[]⟩ = (0, nm0) := by kernel_rfl
theorem okA : okName ⟨#[65]⟩ = true := by kernel_rfl

/-- What becomes of the two calls. -/
theorem nm_steps (S : ByteArray) (R : Bool) (hR : okName S = R) : ∃ st1 st2 : St, write nm0 S ⟨#[]⟩ = ((if R then 0 else 1), st1) ∧ call st1 ⟨#[65]⟩ S = ((if R then 0 else 1), st2) ∧ st1.l.length ≤ 2 ∧ st2.l.length = 1 := by
  have h0 : (⟨#[]⟩ : ByteArray).size = 0 := rfl
  cases R with
  | false =>
    refine ⟨nm0, nm0, ?_, call_form_s hR, by decide, rfl⟩
    unfold write
    simp [hR]
  | true =>
    by_cases hA : (⟨#[65]⟩ : ByteArray) = S
    · subst hA
      exact ⟨_, _, one_write hR ⟨#[]⟩ (by rw [h0]; omega), one_call_same hR, by decide, rfl⟩
    · refine ⟨_, ⟨10 + 0, [(S, ⟨⟨#[]⟩, 0, true⟩)]⟩, two_write hA hR ⟨#[]⟩ (by rw [h0]; omega), ?_, by simp, rfl⟩
      unfold call
      simp [Chest.get, Chest.del, hR, hA]
      rfl

set_option maxRecDepth 100000 in
set_option maxHeartbeats 8000000 in
theorem rollNames_walk (s : ByteArray) (x : Int) (w : World) (hbg : BegunTrue3) (h : LibAt w) :
    Calls Tryz.prog 7 #[.string s, .int .u8 x] w fun e w' => e = .returned (.bool true) ∧ Below w.heap.size w w' := by
  have HB := Lib.hid (hbg w h)
  clear hbg h
  have HCa := Lib.hid (fun w => cut_any s 12 w)
  have hA := cutS_size s 12
  generalize cutS s 12 = A at *
  obtain ⟨c, hc⟩ : ∃ c : UInt8, UInt8.ofNat x.toNat = c := ⟨_, rfl⟩
  obtain ⟨S, hS⟩ : ∃ S, A ++ (⟨#[c]⟩ : ByteArray) = S := ⟨_, rfl⟩
  have hz : S.size = A.size + 1 := by rw [← hS, ByteArray.size_append]; rfl
  have hcv : ∀ W : World, (convert 47 9 (.slice (some ⟨W.heap.size, 0, none⟩) 1 1)).run Tryz.prog (W.alloc (.cells #[.int .u8 x] 5)).drew = .ok (.string ⟨#[c]⟩) (W.alloc (.cells #[.int .u8 x] 5)).drew := fun W => by
    rw [← hc]
    exact conv_one (W.alloc (.cells #[.int .u8 x] 5)).drew W.heap.size 1 x (by go_simp)
  have hs1 : 1 ≤ S.size := by omega
  have hs2 : S.size ≤ 13 := by omega
  obtain ⟨R, hR⟩ : ∃ R, okName S = R := ⟨_, rfl⟩
  obtain ⟨st1, st2, hst⟩ := nm_steps S R hR
  have HST := Lib.hid hst
  have HR := Lib.hid hR
  have HZ := Lib.hid hz
  obtain ⟨g0, hg0⟩ : ∃ g0, decide ((S.size : Int) ≤ 10) = g0 := ⟨_, rfl⟩
  have HG : Hid ((g0 && S.data.toList.all okB) = R) := Lib.hid (by
    rw [← hR, ← hg0]
    unfold okName
    rw [decide_eq_true hs1, Bool.true_and]
    congr 1
    exact decide_eq_decide.2 (by omega))
  clear hst hR hz hc
  go_enter Tryz.func7, Tryz.ntmps7
  go_wp2_with fail
  refine HB.out.mono ?_
  rintro _ w1 ⟨rfl, hb⟩
  have HB1 := Lib.hid hb
  clear hb
  go_wp2_with fail
  go_region_with ((go_at_call 15; refine (HCa.out _).mono ?_; rintro _ _ ⟨rfl, rfl⟩))
  all_goals
    go_wp2_with fail
    have hbw : Below w.heap.size w (w1.alloc (.cells #[.int .u8 x] 5)).drew := (HB1.out.alloc HB1.out.size _).drew
    generalize (w1.alloc (.cells #[.int .u8 x] 5)).drew = W1 at *
    have HBW := Lib.hid hbw
    clear hbw hcv hS hg0
    go_loop [6, 7] (fun gv iv => ∃ (k : Nat) (g : Bool), k ≤ S.size ∧ iv = .int .i64 k ∧ gv = .bool g ∧ Hid ((g && (S.data.toList.drop k).all okB) = R)) (fun _ i => S.size - (intOf i).toNat)
    case atStart => exact ⟨0, g0, by omega, rfl, rfl, HG⟩
    case round =>
      obtain ⟨k, g, hk, rfl, rfl, HP⟩ := hrel
      by_cases hlt : k < S.size
      · have hP := HP.out
        rw [list_get S k hlt, List.all_cons] at hP
        have hlt' : (k : Int) < (S.size : Int) := by omega
        cases g with
        | false =>
          have HQ : Hid ((false && (S.data.toList.drop (k + 1)).all okB) = R) := Lib.hid hP
          clear hP
          go_wp2
          all_goals
            go_round
            case rel => exact ⟨k + 1, false, by omega, by go_num, (by first | rfl | (rw [decide_eq_true (by omega)]) | (rw [decide_eq_false (by omega)])), HQ⟩
            case measure => simp [intOf]; omega
        | true =>
          by_cases hb : 65 ≤ S[k].toNat ∧ S[k].toNat ≤ 90
          · obtain ⟨b0, b1⟩ := hb
            rw [(okB_iff _).2 ⟨b0, b1⟩, Bool.true_and] at hP
            have HQ : Hid ((true && (S.data.toList.drop (k + 1)).all okB) = R) := Lib.hid hP
            clear hP
            go_wp2
            all_goals
              go_round
              case rel => exact ⟨k + 1, true, by omega, by go_num, (by first | rfl | (rw [decide_eq_true (by omega)]) | (rw [decide_eq_false (by omega)])), HQ⟩
              case measure => simp [intOf]; omega
          · have hf : okB S[k] = false := by
              cases h : okB S[k] with
              | false => rfl
              | true => exact absurd ((okB_iff _).1 h) hb
            rw [hf] at hP
            have HQ : Hid ((false && (S.data.toList.drop (k + 1)).all okB) = R) := Lib.hid hP
            clear hP hf
            by_cases b0 : 65 ≤ S[k].toNat
            · have b1 : 90 < S[k].toNat := by omega
              have b2 : ¬ S[k].toNat ≤ 90 := by omega
              clear hb
              go_wp2
              all_goals
                go_round
                case rel => exact ⟨k + 1, false, by omega, by go_num, (by first | rfl | (rw [decide_eq_true (by omega)]) | (rw [decide_eq_false (by omega)])), HQ⟩
                case measure => simp [intOf]; omega
            · clear hb
              go_wp2
              all_goals
                go_round
                case rel => exact ⟨k + 1, false, by omega, by go_num, (by first | rfl | (rw [decide_eq_true (by omega)]) | (rw [decide_eq_false (by omega)])), HQ⟩
                case measure => simp [intOf]; omega
      · have hge : k = S.size := by omega
        have hP := HP.out
        rw [list_end S k (by omega)] at hP
        have hgR : g = R := by rw [← hP]; simp
        subst hgR
        clear hP hge HP HG
        go_wp2_with fail
        refine (new_c 10 HBW.out).mono ?_
        rintro _ w2 ⟨ch, rfl, h2⟩
        rw [nm_new] at h2
        have H2 := Lib.hid h2
        clear h2
        go_wp2_with fail
        refine (write_c H2.out (by decide) ⟨#[65]⟩ ⟨#[]⟩ (by decide)).mono ?_
        rintro _ w3 ⟨rfl, h3⟩
        rw [nm_w] at h3 ⊢
        have H3 := Lib.hid h3
        clear h3
        cases g with
        | false =>
          go_wp2_with fail
          refine (write_c H3.out (by decide) S ⟨#[]⟩ (by omega)).mono ?_
          rintro _ w4 ⟨rfl, h4⟩
          rw [HST.out.1] at h4 ⊢
          have H4 := Lib.hid h4
          clear h4
          simp only [Bool.false_eq_true, if_false]
          go_wp2_with fail
          refine (call_c H4.out (Nat.le_trans HST.out.2.2.1 (by omega)) ⟨#[65]⟩ S (by decide) (by omega)).mono ?_
          rintro _ w5 ⟨rfl, h5⟩
          rw [HST.out.2.1] at h5 ⊢
          have H5 := Lib.hid h5
          clear h5
          simp only [Bool.false_eq_true, if_false]
          go_wp2_with fail
          refine (names_c H5.out (by rw [HST.out.2.2.2]; omega)).mono ?_
          rintro _ w6 ⟨ad, cap, rfl, h6⟩
          rw [HST.out.2.2.2]
          have H6 := Lib.hid h6
          clear h6
          go_wp2_with fail
          go_ret
          exact ⟨rfl, H6.out.2⟩
        | true =>
          go_wp2_with fail
          refine (write_c H3.out (by decide) S ⟨#[]⟩ (by omega)).mono ?_
          rintro _ w4 ⟨rfl, h4⟩
          rw [HST.out.1] at h4 ⊢
          have H4 := Lib.hid h4
          clear h4
          simp only [if_true]
          go_wp2_with fail
          refine (call_c H4.out (Nat.le_trans HST.out.2.2.1 (by omega)) ⟨#[65]⟩ S (by decide) (by omega)).mono ?_
          rintro _ w5 ⟨rfl, h5⟩
          rw [HST.out.2.1] at h5 ⊢
          have H5 := Lib.hid h5
          clear h5
          simp only [if_true]
          go_wp2_with fail
          refine (names_c H5.out (by rw [HST.out.2.2.2]; omega)).mono ?_
          rintro _ w6 ⟨ad, cap, rfl, h6⟩
          rw [HST.out.2.2.2]
          have H6 := Lib.hid h6
          clear h6
          go_wp2_with fail
          go_ret
          exact ⟨rfl, H6.out.2⟩

end Go.Proofs.YtnobbfidngdmhaaGreatDoor
