/-
  RollCall answers true.
-/
import Derived.Test.YtnobbfidngdmhaaGreatDoorRoll15
namespace Go.Proofs.YtnobbfidngdmhaaGreatDoor
open Go.RowKit Go.Maps Go.Proofs.MapD Go.Proofs.Chest

section
variable {room : Nat} {N M : ByteArray} {x y : Rl}

theorem two_write (hMN : N ≠ M) (hM : okName M = true) (s : ByteArray) (hs : s.size ≤ room) : write ⟨room, [(N, x)]⟩ M s = (0, ⟨room - s.size, [(M, ⟨s, 0, false⟩), (N, x)]⟩) := by
  unfold write
  rw [if_neg (by rw [hM]; decide), if_neg (by simpa using hs)]
  have : Chest.get [(N, x)] M = none := get_none.2 (by intro e he; simp at he; subst he; exact hMN)
  simp only [this]

theorem two_press (hMN : N ≠ M) : press ⟨room, [(M, y), (N, x)]⟩ M = (0, ⟨room, [(M, ⟨y.t, y.t.size, true⟩), (N, x)]⟩) := by
  unfold press
  simp [Chest.get, Chest.set, hMN]

theorem two_call (hMN : N ≠ M) (hN : okName N = true) : call ⟨room, [(M, y), (N, x)]⟩ M N = (0, ⟨room + x.t.size, [(N, ⟨y.t, y.p, true⟩)]⟩) := by
  unfold call
  simp [Chest.get, Chest.del, hMN, hMN.symm, hN]

theorem one_call_none (hMN : N ≠ M) {T : ByteArray} (hT : okName T = true) : call ⟨room, [(N, x)]⟩ M T = (6, ⟨room, [(N, x)]⟩) := by
  unfold call
  simp [Chest.get, hMN, hT]

theorem call_form_s {st : St} {M T : ByteArray} (hT : okName T = false) : call st M T = (1, st) := by
  unfold call
  simp [hT]

theorem one_call_same (hN : okName N = true) : call ⟨room, [(N, x)]⟩ N N = (0, ⟨room, [(N, x)]⟩) := by
  unfold call
  simp [Chest.get, hN]

end

theorem names_c {w0 w : World} {c : Nat} {st : St} (h : Ch w0 w c st) (hL : st.l.length ≤ 1000000) :
    Calls Tryz.prog 20 #[.pointer (some ⟨c, 0, none⟩)] w fun e w' => ∃ (ad : Option Addr) (cap : Nat), e = .returned (.slice ad st.l.length cap) ∧ Ch w0 w' c st := by
  have h0 := h
  obtain ⟨⟨F, h1, h2⟩, h3⟩ := h
  refine (rnames_p h1 hL).mono ?_
  rintro e w' ⟨ad, cap, ss, rfl, h4, _, h5⟩
  have : ss.length = st.l.length := by rw [h4.length_eq, List.length_map]
  exact ⟨ad, cap, by rw [this], h0.below h5⟩

def nOLD : ByteArray := ⟨#[79, 76, 68]⟩
def nNEW : ByteArray := ⟨#[78, 69, 87]⟩
theorem k_ne : (⟨#[79, 76, 68]⟩ : ByteArray) ≠ ⟨#[78, 69, 87]⟩ := by decide
theorem k_old : okName ⟨#[79, 76, 68]⟩ = true := by kernel_rfl
theorem k_new : okName ⟨#[78, 69, 87]⟩ = true := by kernel_rfl
theorem k_X : okName ⟨#[88]⟩ = true := by kernel_rfl
theorem k_x : okName ⟨#[120]⟩ = false := by kernel_rfl
theorem k_start : (⟨(min (max (1000 : Int) 0) 1048576).toNat, []⟩ : St) = ⟨1000, []⟩ := by kernel_rfl

set_option maxRecDepth 100000 in
set_option maxHeartbeats 8000000 in
theorem rollCall_in (a b : ByteArray) (press : Bool) (n : Int) (p k : Nat) (hp : (press = true ∧ p = (cutS b 40).size ∧ k = p) ∨ (press = false ∧ p = 0 ∧ n < 0 ∧ k = 0) ∨ (press = false ∧ p = 0 ∧ 0 ≤ n ∧ n % (((cutS b 40).size : Int) + 1) = (k : Int)))
    (hk : k ≤ (cutS b 40).size) (hst : stays ⟨cutS b 40, p, true⟩ n = k) (w : World) (hbg : BegunTrue3) (h : LibAt w) :
    Calls Tryz.prog 5 #[.string a, .string b, .bool press, .int .i64 n] w fun e w' => e = .returned (.bool true) ∧ Below w.heap.size w w' := by
  have HB := Lib.hid (hbg w h)
  clear hbg h
  have HCa := Lib.hid (fun w => cut_any a 40 w)
  have HCb := Lib.hid (fun w => cut_any b 40 w)
  have hA := cutS_size a 40
  have hB := cutS_size b 40
  generalize cutS a 40 = A at *
  generalize cutS b 40 = B at *
  have W1 := Lib.hid (one_write0 (room := 1000) k_old A (by omega))
  have W2 := Lib.hid (one_press (room := 1000 - A.size) (N := ⟨#[79, 76, 68]⟩) (x := ⟨A, 0, false⟩))
  have W3 := Lib.hid (two_write (room := 1000 - A.size) (x := ⟨A, A.size, true⟩) k_ne k_new B (by omega))
  have W4 := Lib.hid (two_press (room := 1000 - A.size - B.size) (x := ⟨A, A.size, true⟩) (y := ⟨B, 0, false⟩) k_ne)
  obtain ⟨rm, hrm⟩ : ∃ rm, 1000 - A.size - B.size + A.size = rm := ⟨_, rfl⟩
  have HRM : Hid ((rm : Int) = 1000 - (B.size : Int)) := Lib.hid (by omega)
  have W5 := Lib.hid (two_call (room := 1000 - A.size - B.size) (x := ⟨A, A.size, true⟩) (y := ⟨B, B.size, true⟩) k_ne k_old)
  have W5' := Lib.hid (two_call (room := 1000 - A.size - B.size) (x := ⟨A, A.size, true⟩) (y := ⟨B, 0, false⟩) k_ne k_old)
  simp only [hrm] at W5 W5'
  have W6 := Lib.hid (one_call_none (room := rm) (x := ⟨B, p, true⟩) k_ne k_X)
  have W7 := Lib.hid (call_form_s (st := ⟨rm, [(⟨#[79, 76, 68]⟩, ⟨B, p, true⟩)]⟩) (M := ⟨#[79, 76, 68]⟩) k_x)
  have W8 := Lib.hid (one_call_same (room := rm) (x := ⟨B, p, true⟩) k_old)
  have W9 := Lib.hid (one_tear (room := rm) (N := ⟨#[79, 76, 68]⟩) (x := ⟨B, p, true⟩) rfl n)
  rw [hst] at W9
  clear hst hrm
  obtain ⟨FF, hF⟩ : ∃ FF, B.extract 0 k = FF := ⟨_, rfl⟩
  simp only [hF] at W9
  rcases hp with ⟨rfl, rfl, rfl⟩ | ⟨rfl, rfl, hn, rfl⟩ | ⟨rfl, rfl, hn, hm⟩
  · rw [extract_all] at hF
    subst hF
    have hx := extract_all B
    go_enter Tryz.func5, Tryz.ntmps5
    go_wp2_with fail
    refine HB.out.mono ?_
    rintro _ w1 ⟨rfl, hb⟩
    have HB1 := Lib.hid hb
    clear hb
    go_wp2_with fail
    refine (HCa.out _).mono ?_
    rintro _ _ ⟨rfl, rfl⟩
    go_wp2_with fail
    refine (HCb.out _).mono ?_
    rintro _ _ ⟨rfl, rfl⟩
    go_wp2_with fail
    refine (new_c 1000 HB1.out).mono ?_
    rintro _ w2 ⟨c, rfl, h2⟩
    rw [k_start] at h2
    have H2 := Lib.hid h2
    clear h2
    go_wp2_with fail
    refine (write_c H2.out (by decide) ⟨#[79, 76, 68]⟩ A (by decide)).mono ?_
    rintro _ w3 ⟨rfl, h3⟩
    rw [W1.out] at h3 ⊢
    have H3 := Lib.hid h3
    clear h3
    go_wp2_with fail
    refine (press_c H3.out ⟨#[79, 76, 68]⟩ (by decide)).mono ?_
    rintro _ w4 ⟨rfl, h4⟩
    rw [W2.out] at h4 ⊢
    have H4 := Lib.hid h4
    clear h4
    go_wp2_with fail
    refine (write_c H4.out (by simp) ⟨#[78, 69, 87]⟩ B (by decide)).mono ?_
    rintro _ w5 ⟨rfl, h5⟩
    rw [W3.out] at h5 ⊢
    have H5 := Lib.hid h5
    clear h5
    go_wp2_with fail
    refine (press_c H5.out ⟨#[78, 69, 87]⟩ (by decide)).mono ?_
    rintro _ w6 ⟨rfl, h6⟩
    rw [W4.out] at h6 ⊢
    have H6 := Lib.hid h6
    clear h6
    go_wp2_with fail
    refine (call_c H6.out (by simp) ⟨#[78, 69, 87]⟩ ⟨#[79, 76, 68]⟩ (by decide) (by decide)).mono ?_
    rintro _ w7 ⟨rfl, h7⟩
    rw [W5.out] at h7 ⊢
    have H7 := Lib.hid h7
    clear h7
    go_wp2_with fail
    refine (call_c H7.out (by simp) ⟨#[78, 69, 87]⟩ ⟨#[88]⟩ (by decide) (by decide)).mono ?_
    rintro _ w8 ⟨rfl, h8⟩
    rw [W6.out] at h8 ⊢
    have H8 := Lib.hid h8
    clear h8
    go_wp2_with fail
    refine (call_c H8.out (by simp) ⟨#[79, 76, 68]⟩ ⟨#[120]⟩ (by decide) (by decide)).mono ?_
    rintro _ w9 ⟨rfl, h9⟩
    rw [W7.out] at h9 ⊢
    have H9 := Lib.hid h9
    clear h9
    go_wp2_with fail
    refine (call_c H9.out (by simp) ⟨#[79, 76, 68]⟩ ⟨#[79, 76, 68]⟩ (by decide) (by decide)).mono ?_
    rintro _ w10 ⟨rfl, h10⟩
    rw [W8.out] at h10 ⊢
    have H10 := Lib.hid h10
    clear h10
    go_wp2_with fail
    refine (tear_c H10.out (by simp) n).mono ?_
    rintro _ w11 ⟨d1, rfl, h11, h11'⟩
    have H11 := Lib.hid h11
    have H11' := Lib.hid h11'
    clear h11 h11'
    go_wp2_with fail
    refine (read_c H11'.out ⟨#[79, 76, 68]⟩ (by decide)).mono ?_
    rintro _ _ ⟨rfl, rfl⟩
    rw [W9.out]
    go_wp2_with fail
    refine (names_c H11.out (by simp)).mono ?_
    rintro _ w12 ⟨ad, cap, rfl, h12⟩
    have H12 := Lib.hid h12
    clear h12
    simp only [List.length_cons, List.length_nil, Nat.zero_add]
    go_wp2_with fail
    refine (room_c H12.out).mono ?_
    rintro _ _ ⟨rfl, rfl⟩
    simp only [HRM.out]
    go_wp2_with fail
    go_ret
    exact ⟨rfl, H12.out.2⟩
  · have hF' : FF = ⟨#[]⟩ := by
      rw [← hF]
      exact ByteArray.ext (Array.eq_empty_of_size_eq_zero (by show (B.extract 0 0).size = 0; rw [ByteArray.size_extract]; omega))
    clear hF
    subst hF'
    have em : (⟨#[]⟩ : ByteArray).toList = [] := by rw [ByteArray.toList_eq]
    go_enter Tryz.func5, Tryz.ntmps5
    go_wp2_with fail
    refine HB.out.mono ?_
    rintro _ w1 ⟨rfl, hb⟩
    have HB1 := Lib.hid hb
    clear hb
    go_wp2_with fail
    refine (HCa.out _).mono ?_
    rintro _ _ ⟨rfl, rfl⟩
    go_wp2_with fail
    refine (HCb.out _).mono ?_
    rintro _ _ ⟨rfl, rfl⟩
    go_wp2_with fail
    refine (new_c 1000 HB1.out).mono ?_
    rintro _ w2 ⟨c, rfl, h2⟩
    rw [k_start] at h2
    have H2 := Lib.hid h2
    clear h2
    go_wp2_with fail
    refine (write_c H2.out (by decide) ⟨#[79, 76, 68]⟩ A (by decide)).mono ?_
    rintro _ w3 ⟨rfl, h3⟩
    rw [W1.out] at h3 ⊢
    have H3 := Lib.hid h3
    clear h3
    go_wp2_with fail
    refine (press_c H3.out ⟨#[79, 76, 68]⟩ (by decide)).mono ?_
    rintro _ w4 ⟨rfl, h4⟩
    rw [W2.out] at h4 ⊢
    have H4 := Lib.hid h4
    clear h4
    go_wp2_with fail
    refine (write_c H4.out (by simp) ⟨#[78, 69, 87]⟩ B (by decide)).mono ?_
    rintro _ w5 ⟨rfl, h5⟩
    rw [W3.out] at h5 ⊢
    have H5 := Lib.hid h5
    clear h5
    go_wp2_with fail
    refine (call_c H5.out (by simp) ⟨#[78, 69, 87]⟩ ⟨#[79, 76, 68]⟩ (by decide) (by decide)).mono ?_
    rintro _ w7 ⟨rfl, h7⟩
    rw [W5'.out] at h7 ⊢
    have H7 := Lib.hid h7
    clear h7
    go_wp2_with fail
    refine (call_c H7.out (by simp) ⟨#[78, 69, 87]⟩ ⟨#[88]⟩ (by decide) (by decide)).mono ?_
    rintro _ w8 ⟨rfl, h8⟩
    rw [W6.out] at h8 ⊢
    have H8 := Lib.hid h8
    clear h8
    go_wp2_with fail
    refine (call_c H8.out (by simp) ⟨#[79, 76, 68]⟩ ⟨#[120]⟩ (by decide) (by decide)).mono ?_
    rintro _ w9 ⟨rfl, h9⟩
    rw [W7.out] at h9 ⊢
    have H9 := Lib.hid h9
    clear h9
    go_wp2_with fail
    refine (call_c H9.out (by simp) ⟨#[79, 76, 68]⟩ ⟨#[79, 76, 68]⟩ (by decide) (by decide)).mono ?_
    rintro _ w10 ⟨rfl, h10⟩
    rw [W8.out] at h10 ⊢
    have H10 := Lib.hid h10
    clear h10
    go_wp2_with fail
    refine (tear_c H10.out (by simp) n).mono ?_
    rintro _ w11 ⟨d1, rfl, h11, h11'⟩
    have H11 := Lib.hid h11
    have H11' := Lib.hid h11'
    clear h11 h11'
    go_wp2_with fail
    refine (read_c H11'.out ⟨#[79, 76, 68]⟩ (by decide)).mono ?_
    rintro _ _ ⟨rfl, rfl⟩
    rw [W9.out]
    go_wp2_with fail
    refine (names_c H11.out (by simp)).mono ?_
    rintro _ w12 ⟨ad, cap, rfl, h12⟩
    have H12 := Lib.hid h12
    clear h12
    simp only [List.length_cons, List.length_nil, Nat.zero_add]
    go_wp2_with fail
    refine (room_c H12.out).mono ?_
    rintro _ _ ⟨rfl, rfl⟩
    simp only [HRM.out]
    go_wp2_with fail
    go_ret
    exact ⟨rfl, H12.out.2⟩
  · have kl : (k : Int) ≤ (B.size : Int) := by omega
    go_enter Tryz.func5, Tryz.ntmps5
    go_wp2_with fail
    refine HB.out.mono ?_
    rintro _ w1 ⟨rfl, hb⟩
    have HB1 := Lib.hid hb
    clear hb
    go_wp2_with fail
    refine (HCa.out _).mono ?_
    rintro _ _ ⟨rfl, rfl⟩
    go_wp2_with fail
    refine (HCb.out _).mono ?_
    rintro _ _ ⟨rfl, rfl⟩
    go_wp2_with fail
    refine (new_c 1000 HB1.out).mono ?_
    rintro _ w2 ⟨c, rfl, h2⟩
    rw [k_start] at h2
    have H2 := Lib.hid h2
    clear h2
    go_wp2_with fail
    refine (write_c H2.out (by decide) ⟨#[79, 76, 68]⟩ A (by decide)).mono ?_
    rintro _ w3 ⟨rfl, h3⟩
    rw [W1.out] at h3 ⊢
    have H3 := Lib.hid h3
    clear h3
    go_wp2_with fail
    refine (press_c H3.out ⟨#[79, 76, 68]⟩ (by decide)).mono ?_
    rintro _ w4 ⟨rfl, h4⟩
    rw [W2.out] at h4 ⊢
    have H4 := Lib.hid h4
    clear h4
    go_wp2_with fail
    refine (write_c H4.out (by simp) ⟨#[78, 69, 87]⟩ B (by decide)).mono ?_
    rintro _ w5 ⟨rfl, h5⟩
    rw [W3.out] at h5 ⊢
    have H5 := Lib.hid h5
    clear h5
    go_wp2_with fail
    refine (call_c H5.out (by simp) ⟨#[78, 69, 87]⟩ ⟨#[79, 76, 68]⟩ (by decide) (by decide)).mono ?_
    rintro _ w7 ⟨rfl, h7⟩
    rw [W5'.out] at h7 ⊢
    have H7 := Lib.hid h7
    clear h7
    go_wp2_with fail
    refine (call_c H7.out (by simp) ⟨#[78, 69, 87]⟩ ⟨#[88]⟩ (by decide) (by decide)).mono ?_
    rintro _ w8 ⟨rfl, h8⟩
    rw [W6.out] at h8 ⊢
    have H8 := Lib.hid h8
    clear h8
    go_wp2_with fail
    refine (call_c H8.out (by simp) ⟨#[79, 76, 68]⟩ ⟨#[120]⟩ (by decide) (by decide)).mono ?_
    rintro _ w9 ⟨rfl, h9⟩
    rw [W7.out] at h9 ⊢
    have H9 := Lib.hid h9
    clear h9
    go_wp2_with fail
    refine (call_c H9.out (by simp) ⟨#[79, 76, 68]⟩ ⟨#[79, 76, 68]⟩ (by decide) (by decide)).mono ?_
    rintro _ w10 ⟨rfl, h10⟩
    rw [W8.out] at h10 ⊢
    have H10 := Lib.hid h10
    clear h10
    go_wp2_with fail
    refine (tear_c H10.out (by simp) n).mono ?_
    rintro _ w11 ⟨d1, rfl, h11, h11'⟩
    have H11 := Lib.hid h11
    have H11' := Lib.hid h11'
    clear h11 h11'
    go_wp2_with fail
    refine (read_c H11'.out ⟨#[79, 76, 68]⟩ (by decide)).mono ?_
    rintro _ _ ⟨rfl, rfl⟩
    rw [W9.out]
    go_wp2_with fail
    refine (names_c H11.out (by simp)).mono ?_
    rintro _ w12 ⟨ad, cap, rfl, h12⟩
    have H12 := Lib.hid h12
    clear h12
    simp only [List.length_cons, List.length_nil, Nat.zero_add]
    go_wp2_with fail
    refine (room_c H12.out).mono ?_
    rintro _ _ ⟨rfl, rfl⟩
    simp only [HRM.out]
    go_wp2_with fail
    go_ret
    exact ⟨rfl, H12.out.2⟩

theorem rollCall_walk (a b : ByteArray) (press : Bool) (n : Int) (w : World) (hbg : BegunTrue3) (h : LibAt w) :
    Calls Tryz.prog 5 #[.string a, .string b, .bool press, .int .i64 n] w fun e w' => e = .returned (.bool true) ∧ Below w.heap.size w w' := by
  have hx := cutS_size b 40
  cases press with
  | true =>
    refine rollCall_in a b true n _ _ (.inl ⟨rfl, rfl, rfl⟩) (Nat.le_refl _) ?_ w hbg h
    unfold stays
    simp only [Nat.sub_self, Nat.zero_add, Nat.mod_one, Nat.add_zero]
  | false =>
    by_cases hn : n < 0
    · refine rollCall_in a b false n 0 0 (.inr (.inl ⟨rfl, rfl, hn, rfl⟩)) (Nat.zero_le _) ?_ w hbg h
      unfold stays
      have : n.toNat = 0 := by omega
      rw [this, Nat.zero_mod]
    · refine rollCall_in a b false n 0 (n.toNat % ((cutS b 40).size + 1)) (.inr (.inr ⟨rfl, rfl, by omega, ?_⟩)) ?_ ?_ w hbg h
      · have := emod_nat n ((cutS b 40).size + 1) (by omega)
        rw [← this]
        rfl
      · have := Nat.mod_lt n.toNat (show 0 < (cutS b 40).size + 1 by omega)
        omega
      · unfold stays
        simp only [Nat.sub_zero, Nat.zero_add]

end Go.Proofs.YtnobbfidngdmhaaGreatDoor
