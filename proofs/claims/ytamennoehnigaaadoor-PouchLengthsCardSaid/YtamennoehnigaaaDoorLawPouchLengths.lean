/-
  PouchLengths answers true.
-/
import Derived.Test.YtamennoehnigaaaDoorDigits2
import Derived.Test.YtamennoehnigaaaDoorMark
namespace Go.Proofs.YtamennoehnigaaaDoor
open Go.RowKit

/-- A length that is not the text's: no value. -/
theorem all_off (S : ByteArray) (N : Nat) (hS : S.size ≤ 9999999) (hN : N ≤ 9999999) (hne : N ≠ S.size) : allR (((decS (N : Int) ++ ⟨#[58]⟩) ++ S) ++ ⟨#[44]⟩) = .error 1 := by
  obtain ⟨T, hT⟩ : ∃ T, ((decS (N : Int) ++ ⟨#[58]⟩) ++ S) ++ ⟨#[44]⟩ = T := ⟨_, rfl⟩
  rw [hT]
  have hL : T.data.toList = Lib.decDigits N ++ 58 :: (S.data.toList ++ [44]) := by
    rw [← hT]
    simp only [ByteArray.data_append, Array.toList_append, decS_list]
    rw [Lib.itoa_nonneg]
    simp
  have hsz : T.size = Lib.nDigits N + 1 + S.size + 1 := by
    show T.data.size = _
    rw [← Array.length_toList, hL]
    simp only [List.length_append, List.length_cons, Lib.decDigits_length, Array.length_toList, List.length_nil]
    show _ + (S.size + 1 + 1) = _
    omega
  have hp := Lib.nDigits_pos N
  have hlen : lenP 0 0 T.data.toList = (N, Lib.nDigits N + 1, 0) := by
    rw [hL, lenP_dig _ _ (by omega), lenP, if_neg (by decide), if_neg]
    rintro (h0 | h0)
    · omega
    · exact h0 (by decide)
  unfold allR
  cases hg : getR T with
  | error e => rfl
  | ok x =>
    simp only
    obtain ⟨_, hb, h0⟩ := getP_bd 6 T 6000 x hg (by decide)
    rw [if_neg]
    intro h
    rw [h] at hb
    unfold cutP at hb h0
    rw [hlen] at hb h0
    simp only [if_true] at hb h0
    by_cases h1 : T.size - (Lib.nDigits N + 1) ≤ N
    · rw [if_pos h1] at h0
      simp at h0
    · rw [if_neg h1] at hb
      simp only at hb
      omega

/-- A nought ahead: no value. -/
theorem all_lead (D R : ByteArray) (c : UInt8) (r : List UInt8) (hD : D.data.toList = c :: r) (hc : 48 ≤ c.toNat ∧ c.toNat ≤ 57) : allR ((⟨#[48]⟩ ++ D) ++ R) = .error 1 := by
  obtain ⟨T, hT⟩ : ∃ T, (⟨#[48]⟩ ++ D) ++ R = T := ⟨_, rfl⟩
  rw [hT]
  have hL : T.data.toList = 48 :: c :: (r ++ R.data.toList) := by
    rw [← hT]
    simp only [ByteArray.data_append, Array.toList_append, hD]
    rfl
  have hlen : lenP 0 0 T.data.toList = (0, 0, 1) := by
    rw [hL, lenP, if_pos (by decide), if_neg (by omega), lenP, if_pos hc, if_pos (.inl ⟨by omega, by decide⟩)]
  have hcut : cutP T = (⟨#[]⟩, 0, 1) := by
    unfold cutP
    rw [hlen]
    rfl
  unfold allR getR getP
  rw [hcut]
  rfl

theorem lead_all (S : ByteArray) (hS : S.size ≤ 40) (w : World) (hlib : LibAt w) :
    Calls Tryd.prog 44 #[.string ((((⟨#[48]⟩ ++ decS ((S.size : Int) + 1)) ++ ⟨#[58]⟩) ++ S) ++ ⟨#[120, 44]⟩)] w fun e w' => e = .returned (.tuple #[.agg #[.int .i64 0, .int .i64 0, .string ⟨#[]⟩, .slice none 0 0], .int .i64 1]) ∧ Below w.heap.size w w' := by
  obtain ⟨c, r, hc, _, hc1, hc2, _⟩ := dig_head (S.size + 1)
  have hD : (decS ((S.size : Int) + 1)).data.toList = c :: r := by
    rw [decS_list, show (S.size : Int) + 1 = ((S.size + 1 : Nat) : Int) by omega, Lib.itoa_nonneg, hc]
  have hz := decS_size ((S.size : Int) + 1) (by omega) (by omega)
  have hsz : ((((⟨#[48]⟩ ++ decS ((S.size : Int) + 1)) ++ ⟨#[58]⟩) ++ S) ++ ⟨#[120, 44]⟩ : ByteArray).size ≤ 100 := by
    simp only [ByteArray.size_append]
    have e1 : (⟨#[48]⟩ : ByteArray).size = 1 := rfl
    have e2 : (⟨#[58]⟩ : ByteArray).size = 1 := rfl
    have e3 : (⟨#[120, 44]⟩ : ByteArray).size = 2 := rfl
    omega
  have := All_p ((((⟨#[48]⟩ ++ decS ((S.size : Int) + 1)) ++ ⟨#[58]⟩) ++ S) ++ ⟨#[120, 44]⟩) w (by omega) hlib
  rw [show ((((⟨#[48]⟩ ++ decS ((S.size : Int) + 1)) ++ ⟨#[58]⟩) ++ S) ++ ⟨#[120, 44]⟩ : ByteArray) = (⟨#[48]⟩ ++ decS ((S.size : Int) + 1)) ++ ((⟨#[58]⟩ ++ S) ++ ⟨#[120, 44]⟩) by simp only [ByteArray.append_assoc], all_lead _ _ c r hD ⟨hc1, hc2⟩] at this
  rw [show ((((⟨#[48]⟩ ++ decS ((S.size : Int) + 1)) ++ ⟨#[58]⟩) ++ S) ++ ⟨#[120, 44]⟩ : ByteArray) = (⟨#[48]⟩ ++ decS ((S.size : Int) + 1)) ++ ((⟨#[58]⟩ ++ S) ++ ⟨#[120, 44]⟩) by simp only [ByteArray.append_assoc]]
  exact this.mono fun _ _ h => ⟨h.2, h.1⟩

theorem off_all (S : ByteArray) (hS : S.size ≤ 40) (N : Nat) (hN : N ≤ 43) (hne : N ≠ S.size) (w : World) (hlib : LibAt w) :
    Calls Tryd.prog 44 #[.string (((decS (N : Int) ++ ⟨#[58]⟩) ++ S) ++ ⟨#[44]⟩)] w fun e w' => e = .returned (.tuple #[.agg #[.int .i64 0, .int .i64 0, .string ⟨#[]⟩, .slice none 0 0], .int .i64 1]) ∧ Below w.heap.size w w' := by
  have hz := decS_size (N : Int) (by omega) (by omega)
  have hsz : (((decS (N : Int) ++ ⟨#[58]⟩) ++ S) ++ ⟨#[44]⟩ : ByteArray).size ≤ 100 := by
    simp only [ByteArray.size_append]
    have e2 : (⟨#[58]⟩ : ByteArray).size = 1 := rfl
    have e3 : (⟨#[44]⟩ : ByteArray).size = 1 := rfl
    omega
  have := All_p (((decS (N : Int) ++ ⟨#[58]⟩) ++ S) ++ ⟨#[44]⟩) w (by omega) hlib
  rw [all_off S N (by omega) (by omega) hne] at this
  exact this.mono fun _ _ h => ⟨h.2, h.1⟩

theorem on_all (S : ByteArray) (hS : S.size ≤ 40) (N : Nat) (he : N = S.size) (w : World) (hlib : LibAt w) :
    Calls Tryd.prog 44 #[.string (((decS (N : Int) ++ ⟨#[58]⟩) ++ S) ++ ⟨#[44]⟩)] w fun e w' => (∃ ad cap, e = .returned (.tuple #[.agg #[.int .i64 2, .int .i64 0, .string S, .slice ad 0 cap], .int .i64 0])) ∧ Below w.heap.size w w' := by
  subst he
  rw [frame_eq _ _ (by omega)]
  have hz := frameS_size S ⟨#[44]⟩
  have e : (⟨#[44]⟩ : ByteArray).size = 1 := rfl
  have := All_p (frameS S ⟨#[44]⟩) w (by omega) hlib
  rw [all_str _ (by omega)] at this
  exact this.mono fun _ _ ⟨h1, ad, cap, h2, _⟩ => ⟨⟨ad, cap, h2⟩, h1⟩

set_option maxRecDepth 100000 in
set_option maxHeartbeats 4000000 in
theorem pouchLengths_in (s : ByteArray) (by' : Int) (h0 : -3 ≤ by') (h1 : by' ≤ 3) (w : World) (hbg : BegunTrue) (h : LibAt w) :
    Calls Tryd.prog 18 #[.string s, .int .i64 by'] w fun e w' => e = .returned (.bool true) ∧ Below w.heap.size w w' := by
  have HL := Lib.hid h
  have HB := Lib.hid (hbg w h)
  have C1 := Lib.hid (cut_any s 40)
  have hS := cutS_size s 40
  generalize cutS s 40 = S at *
  obtain ⟨N, hN⟩ : ∃ N : Nat, (N : Int) = max 0 ((S.size : Int) + by') := ⟨(max 0 ((S.size : Int) + by')).toNat, by omega⟩
  have HD1 : Hid (∀ (m : Int) (w : World), m = (N : Int) → Calls Tryd.prog 43 #[.int .i64 m] w fun e w' => e = .returned (.string (decS (N : Int))) ∧ Below w.heap.size w w') := Lib.hid (fun m w hm => by subst hm; exact rDigits _ (by omega) (by omega) w)
  have HD2 : Hid (∀ (m : Int) (w : World), m = (S.size : Int) + 1 → Calls Tryd.prog 43 #[.int .i64 m] w fun e w' => e = .returned (.string (decS ((S.size : Int) + 1))) ∧ Below w.heap.size w w') := Lib.hid (fun m w hm => by subst hm; exact rDigits _ (by omega) (by omega) w)
  have HF := Lib.hid (lead_all S hS)
  have hE1 := decS_size (N : Int) (by omega) (by omega)
  have hE2 := decS_size ((S.size : Int) + 1) (by omega) (by omega)
  clear hbg h
  have HA : Hid (∀ (w : World), N = S.size → LibAt w → Calls Tryd.prog 44 #[.string (((decS (N : Int) ++ ⟨#[58]⟩) ++ S) ++ ⟨#[44]⟩)] w fun e w' => (∃ ad cap, e = .returned (.tuple #[.agg #[.int .i64 2, .int .i64 0, .string S, .slice ad 0 cap], .int .i64 0])) ∧ Below w.heap.size w w') := Lib.hid (fun w he hl => on_all S hS N he w hl)
  have HO : Hid (∀ (w : World), N ≠ S.size → LibAt w → Calls Tryd.prog 44 #[.string (((decS (N : Int) ++ ⟨#[58]⟩) ++ S) ++ ⟨#[44]⟩)] w fun e w' => e = .returned (.tuple #[.agg #[.int .i64 0, .int .i64 0, .string ⟨#[]⟩, .slice none 0 0], .int .i64 1]) ∧ Below w.heap.size w w') := Lib.hid (fun w hn hl => off_all S hS N (by omega) hn w hl)
  generalize decS (N : Int) = E1 at *
  generalize decS ((S.size : Int) + 1) = E2 at *
  have HN := Lib.hid hN
  have HMX : Hid (max 0 ((S.size : Int) + by') = (N : Int)) := Lib.hid hN.symm
  clear hN
  have g0 : ¬ by' < -3 := by omega
  have g1 : ¬ 3 < by' := by omega
  have hparts : (by' = 0) ∨ (by' ≠ 0 ∧ (S.size : Int) + by' < 0 ∧ S.size = 0) ∨ (by' ≠ 0 ∧ (S.size : Int) + by' < 0 ∧ S.size ≠ 0) ∨ (by' ≠ 0 ∧ ¬ (S.size : Int) + by' < 0) := by omega
  have HNE : Hid (by' ≠ 0 → ¬ ((S.size : Int) + by' < 0 ∧ S.size = 0) → N ≠ S.size) := Lib.hid (by have := HN.out; omega)
  have HEQ : Hid ((by' = 0 ∨ (by' ≠ 0 ∧ (S.size : Int) + by' < 0 ∧ S.size = 0)) → N = S.size) := Lib.hid (by have := HN.out; omega)
  clear HN
  go_enter Tryd.func18, Tryd.ntmps18
  go_wp2_with fail
  refine HB.out.mono ?_
  rintro _ w0 ⟨rfl, hb0⟩
  have HB0 := Lib.hid hb0
  clear hb0
  go_wp2_with fail
  refine (C1.out _).mono ?_
  rintro _ w' ⟨rfl, rfl⟩
  go_wp2_with fail
  refine (HD1.out _ _ HMX.out).mono ?_
  rintro _ w1 ⟨rfl, hb⟩
  have HB1 := Lib.hid (HB0.out.trans (hb.mono HB0.out.size))
  clear hb
  go_wp2_with fail
  rcases hparts with hp | ⟨hp, hq, hr⟩ | ⟨hp, hq, hr⟩ | ⟨hp, hq⟩
  · have he := HEQ.out (.inl hp)
    have b1 : (by' == 0) = true := by rw [beq_iff_eq]; exact hp
    refine (HA.out _ he (HL.out.below HB1.out)).mono ?_
    rintro _ w2 ⟨⟨ad, cap, rfl⟩, hb⟩
    clear he hp
    have HB2 := Lib.hid ((HB1.out.trans (hb.mono HB1.out.size)).alloc (Nat.le_trans HB1.out.size hb.size) (.cells #[.int .i64 2, .int .i64 0, .string S, .slice ad 0 cap] 58))
    clear hb
    go_wp2_with fail
    refine (HD2.out _ _ (by first | rfl | omega)).mono ?_
    rintro _ w3 ⟨rfl, hb⟩
    have c0 : w3.cell? ⟨w2.heap.size, 0, none⟩ = some (.int .i64 2) := by rw [hb.cell (by simp)]; go_simp
    have c2 : w3.cell? ⟨w2.heap.size, 2, none⟩ = some (.string S) := by rw [hb.cell (by simp)]; go_simp
    have hV3 : w2.heap.size < w3.heap.size := by have := hb.size; simp at this; omega
    have HB3 := Lib.hid (HB2.out.trans (hb.mono HB2.out.size))
    clear hb
    go_wp2_with fail
    refine (HF.out _ (HL.out.below HB3.out)).mono ?_
    rintro _ w4 ⟨rfl, hb⟩
    have d0 : w4.cell? ⟨w2.heap.size, 0, none⟩ = some (.int .i64 2) := by rw [hb.cell hV3]; exact c0
    have d2 : w4.cell? ⟨w2.heap.size, 2, none⟩ = some (.string S) := by rw [hb.cell hV3]; exact c2
    have hV4 : w2.heap.size < w4.heap.size := Nat.lt_of_lt_of_le hV3 hb.size
    have hne : ¬ w4.heap.size = w2.heap.size := by omega
    have HB4 := Lib.hid ((HB3.out.trans (hb.mono HB3.out.size)).alloc (Nat.le_trans HB3.out.size hb.size) (.cells #[.int .i64 0, .int .i64 0, .string ⟨#[]⟩, .slice none 0 0] 58))
    clear hb c0 c2
    go_wp2_with fail
    go_ret
    exact ⟨rfl, HB4.out⟩
  · have he := HEQ.out (.inr ⟨hp, hq, hr⟩)
    have b1 : (by' == 0) = false := by rw [beq_eq_false_iff_ne]; exact hp
    have b3 : ((S.size : Int) == 0) = true := by rw [beq_iff_eq]; omega
    refine (HA.out _ he (HL.out.below HB1.out)).mono ?_
    rintro _ w2 ⟨⟨ad, cap, rfl⟩, hb⟩
    clear he hp hr
    have HB2 := Lib.hid ((HB1.out.trans (hb.mono HB1.out.size)).alloc (Nat.le_trans HB1.out.size hb.size) (.cells #[.int .i64 2, .int .i64 0, .string S, .slice ad 0 cap] 58))
    clear hb
    go_wp2_with fail
    refine (HD2.out _ _ (by first | rfl | omega)).mono ?_
    rintro _ w3 ⟨rfl, hb⟩
    have c0 : w3.cell? ⟨w2.heap.size, 0, none⟩ = some (.int .i64 2) := by rw [hb.cell (by simp)]; go_simp
    have c2 : w3.cell? ⟨w2.heap.size, 2, none⟩ = some (.string S) := by rw [hb.cell (by simp)]; go_simp
    have hV3 : w2.heap.size < w3.heap.size := by have := hb.size; simp at this; omega
    have HB3 := Lib.hid (HB2.out.trans (hb.mono HB2.out.size))
    clear hb
    go_wp2_with fail
    refine (HF.out _ (HL.out.below HB3.out)).mono ?_
    rintro _ w4 ⟨rfl, hb⟩
    have d0 : w4.cell? ⟨w2.heap.size, 0, none⟩ = some (.int .i64 2) := by rw [hb.cell hV3]; exact c0
    have d2 : w4.cell? ⟨w2.heap.size, 2, none⟩ = some (.string S) := by rw [hb.cell hV3]; exact c2
    have hV4 : w2.heap.size < w4.heap.size := Nat.lt_of_lt_of_le hV3 hb.size
    have hne : ¬ w4.heap.size = w2.heap.size := by omega
    have HB4 := Lib.hid ((HB3.out.trans (hb.mono HB3.out.size)).alloc (Nat.le_trans HB3.out.size hb.size) (.cells #[.int .i64 0, .int .i64 0, .string ⟨#[]⟩, .slice none 0 0] 58))
    clear hb c0 c2
    go_wp2_with fail
    go_ret
    exact ⟨rfl, HB4.out⟩
  · have he := HNE.out hp (fun h => by omega)
    have b1 : (by' == 0) = false := by rw [beq_eq_false_iff_ne]; exact hp
    have b3 : ((S.size : Int) == 0) = false := by rw [beq_eq_false_iff_ne]; omega
    refine (HO.out _ he (HL.out.below HB1.out)).mono ?_
    rintro _ w2 ⟨rfl, hb⟩
    clear he hp hr
    have HB2 := Lib.hid ((HB1.out.trans (hb.mono HB1.out.size)).alloc (Nat.le_trans HB1.out.size hb.size) (.cells #[.int .i64 0, .int .i64 0, .string ⟨#[]⟩, .slice none 0 0] 58))
    clear hb
    go_wp2_with fail
    refine (HD2.out _ _ (by first | rfl | omega)).mono ?_
    rintro _ w3 ⟨rfl, hb⟩
    have c0 : w3.cell? ⟨w2.heap.size, 0, none⟩ = some (.int .i64 0) := by rw [hb.cell (by simp)]; go_simp
    have c2 : w3.cell? ⟨w2.heap.size, 2, none⟩ = some (.string ⟨#[]⟩) := by rw [hb.cell (by simp)]; go_simp
    have hV3 : w2.heap.size < w3.heap.size := by have := hb.size; simp at this; omega
    have HB3 := Lib.hid (HB2.out.trans (hb.mono HB2.out.size))
    clear hb
    go_wp2_with fail
    refine (HF.out _ (HL.out.below HB3.out)).mono ?_
    rintro _ w4 ⟨rfl, hb⟩
    have d0 : w4.cell? ⟨w2.heap.size, 0, none⟩ = some (.int .i64 0) := by rw [hb.cell hV3]; exact c0
    have d2 : w4.cell? ⟨w2.heap.size, 2, none⟩ = some (.string ⟨#[]⟩) := by rw [hb.cell hV3]; exact c2
    have hV4 : w2.heap.size < w4.heap.size := Nat.lt_of_lt_of_le hV3 hb.size
    have hne : ¬ w4.heap.size = w2.heap.size := by omega
    have HB4 := Lib.hid ((HB3.out.trans (hb.mono HB3.out.size)).alloc (Nat.le_trans HB3.out.size hb.size) (.cells #[.int .i64 0, .int .i64 0, .string ⟨#[]⟩, .slice none 0 0] 58))
    clear hb c0 c2
    go_wp2_with fail
    go_ret
    exact ⟨rfl, HB4.out⟩
  · have he := HNE.out hp (fun h => by omega)
    have b1 : (by' == 0) = false := by rw [beq_eq_false_iff_ne]; exact hp
    refine (HO.out _ he (HL.out.below HB1.out)).mono ?_
    rintro _ w2 ⟨rfl, hb⟩
    clear he hp
    have HB2 := Lib.hid ((HB1.out.trans (hb.mono HB1.out.size)).alloc (Nat.le_trans HB1.out.size hb.size) (.cells #[.int .i64 0, .int .i64 0, .string ⟨#[]⟩, .slice none 0 0] 58))
    clear hb
    go_wp2_with fail
    refine (HD2.out _ _ (by first | rfl | omega)).mono ?_
    rintro _ w3 ⟨rfl, hb⟩
    have c0 : w3.cell? ⟨w2.heap.size, 0, none⟩ = some (.int .i64 0) := by rw [hb.cell (by simp)]; go_simp
    have c2 : w3.cell? ⟨w2.heap.size, 2, none⟩ = some (.string ⟨#[]⟩) := by rw [hb.cell (by simp)]; go_simp
    have hV3 : w2.heap.size < w3.heap.size := by have := hb.size; simp at this; omega
    have HB3 := Lib.hid (HB2.out.trans (hb.mono HB2.out.size))
    clear hb
    go_wp2_with fail
    refine (HF.out _ (HL.out.below HB3.out)).mono ?_
    rintro _ w4 ⟨rfl, hb⟩
    have d0 : w4.cell? ⟨w2.heap.size, 0, none⟩ = some (.int .i64 0) := by rw [hb.cell hV3]; exact c0
    have d2 : w4.cell? ⟨w2.heap.size, 2, none⟩ = some (.string ⟨#[]⟩) := by rw [hb.cell hV3]; exact c2
    have hV4 : w2.heap.size < w4.heap.size := Nat.lt_of_lt_of_le hV3 hb.size
    have hne : ¬ w4.heap.size = w2.heap.size := by omega
    have HB4 := Lib.hid ((HB3.out.trans (hb.mono HB3.out.size)).alloc (Nat.le_trans HB3.out.size hb.size) (.cells #[.int .i64 0, .int .i64 0, .string ⟨#[]⟩, .slice none 0 0] 58))
    clear hb c0 c2
    go_wp2_with fail
    go_ret
    exact ⟨rfl, HB4.out⟩

set_option maxRecDepth 100000 in
set_option maxHeartbeats 1000000 in
theorem pouchLengths_out (s : ByteArray) (by' : Int) (ho : by' < -3 ∨ 3 < by') (w : World) (hbg : BegunTrue) (h : LibAt w) :
    Calls Tryd.prog 18 #[.string s, .int .i64 by'] w fun e w' => e = .returned (.bool true) ∧ Below w.heap.size w w' := by
  have HB := Lib.hid (hbg w h)
  have C1 := Lib.hid (cut_any s 40)
  clear hbg h
  by_cases h0 : by' < -3
  · go_enter Tryd.func18, Tryd.ntmps18
    go_wp2_with fail
    refine HB.out.mono ?_
    rintro _ w0 ⟨rfl, hb0⟩
    go_wp2_with fail
    refine (C1.out _).mono ?_
    rintro _ w' ⟨rfl, rfl⟩
    go_wp2_with fail
    go_ret
    exact ⟨rfl, hb0⟩
  · have h1 : 3 < by' := by omega
    clear ho
    go_enter Tryd.func18, Tryd.ntmps18
    go_wp2_with fail
    refine HB.out.mono ?_
    rintro _ w0 ⟨rfl, hb0⟩
    go_wp2_with fail
    refine (C1.out _).mono ?_
    rintro _ w' ⟨rfl, rfl⟩
    go_wp2_with fail
    go_ret
    exact ⟨rfl, hb0⟩

theorem pouchLengths_walk (s : ByteArray) (by' : Int) (w : World) (hbg : BegunTrue) (h : LibAt w) :
    Calls Tryd.prog 18 #[.string s, .int .i64 by'] w fun e w' => e = .returned (.bool true) ∧ Below w.heap.size w w' := by
  by_cases ho : by' < -3 ∨ 3 < by'
  · exact pouchLengths_out s by' ho w hbg h
  · exact pouchLengths_in s by' (by omega) (by omega) w hbg h

end Go.Proofs.YtamennoehnigaaaDoor
