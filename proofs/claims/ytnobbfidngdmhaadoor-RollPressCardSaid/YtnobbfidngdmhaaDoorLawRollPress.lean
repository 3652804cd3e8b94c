/-
  RollPress answers true.
-/
import Derived.Test.YtnobbfidngdmhaaDoorRoll14
namespace Go.Proofs.YtnobbfidngdmhaaDoor
open Go.RowKit Go.Maps Go.Proofs.MapD Go.Proofs.Chest

theorem p_new : (⟨(min (max (1000 : Int) 0) 1048576).toNat, []⟩ : St) = ⟨1000, []⟩ := by kernel_rfl
theorem okR : okName ⟨#[82]⟩ = true := by kernel_rfl

set_option maxRecDepth 100000 in
set_option maxHeartbeats 8000000 in
theorem rollPress_in (a b d : ByteArray) (ct n : Int) (k m : Nat) (hk : k ≤ (cutS a 40).size + (cutS b 40).size) (hm : m = n.toNat % (k + (cutS d 40).size - min (cutS a 40).size k + 1))
    (hkc : (ct < 0 ∧ k = 0) ∨ (0 ≤ ct ∧ ct % (((cutS a 40).size : Int) + ((cutS b 40).size : Int) + 1) = (k : Int)))
    (hmc : (n < 0 ∧ m = 0) ∨ (0 ≤ n ∧ n % ((k : Int) + ((cutS d 40).size : Int) - min ((cutS a 40).size : Int) (k : Int) + 1) = (m : Int)))
    (w : World) (hbg : BegunTrue3) (h : LibAt w) :
    Calls Tryd.prog 3 #[.string a, .string b, .string d, .int .i64 ct, .int .i64 n] w fun e w' => e = .returned (.bool true) ∧ Below w.heap.size w w' := by
  have HB := Lib.hid (hbg w h)
  clear hbg h
  have HCa := Lib.hid (fun w => cut_any a 40 w)
  have HCb := Lib.hid (fun w => cut_any b 40 w)
  have HCd := Lib.hid (fun w => cut_any d 40 w)
  have hA := cutS_size a 40
  have hB := cutS_size b 40
  have hD := cutS_size d 40
  generalize cutS a 40 = A at *
  generalize cutS b 40 = B at *
  generalize cutS d 40 = X at *
  obtain ⟨AB, hab⟩ : ∃ AB, A ++ B = AB := ⟨_, rfl⟩
  obtain ⟨E, he⟩ : ∃ E, AB.extract 0 k = E := ⟨_, rfl⟩
  obtain ⟨T, ht⟩ : ∃ T, E ++ X = T := ⟨_, rfl⟩
  have sAB : AB.size = A.size + B.size := by rw [← hab, ByteArray.size_append]
  have sE : E.size = k := by rw [← he, ByteArray.size_extract]; omega
  have sT : T.size = k + X.size := by rw [← ht, ByteArray.size_append, sE]
  have HSAB := Lib.hid sAB
  have HSE := Lib.hid sE
  have HST := Lib.hid sT
  have W1 := Lib.hid (one_write0 (room := 1000) okR A (by omega))
  have W2 := Lib.hid (one_press (room := 1000 - A.size) (N := ⟨#[82]⟩) (x := ⟨A, 0, false⟩))
  have W3 := Lib.hid (one_write (room := 1000 - A.size) (x := ⟨A, A.size, true⟩) okR B (by omega))
  have W4 := Lib.hid (one_cut (room := 1000 - A.size - B.size) (N := ⟨#[82]⟩) (x := ⟨A ++ B, A.size, true⟩) k (by rw [ByteArray.size_append]; exact hk))
  rw [hab] at W3 W4
  simp only [he, sAB] at W4
  have W5 := Lib.hid (one_write (room := 1000 - A.size - B.size + (A.size + B.size - k)) (x := ⟨E, min A.size k, true⟩) okR X (by omega))
  rw [ht] at W5
  have hst : stays ⟨T, min A.size k, true⟩ n = min A.size k + m := by
    unfold stays
    rw [sT, hm]
  have W6 := Lib.hid (one_tear (room := 1000 - A.size - B.size + (A.size + B.size - k) - X.size) (N := ⟨#[82]⟩) (x := ⟨T, min A.size k, true⟩) rfl n)
  simp only [hst] at W6
  have hmT : min A.size k + m ≤ T.size := by
    have := stays_le ⟨T, min A.size k, true⟩ n (by simp only; omega)
    rw [hst] at this
    exact this.2
  have W7 := Lib.hid (one_pressed (room := 1000 - A.size - B.size + (A.size + B.size - k) - X.size) (N := ⟨#[82]⟩) (x := ⟨T, min A.size k, true⟩))
  obtain ⟨ki, hki, hkc⟩ : ∃ ki : Int, Hid (ki = (k : Int)) ∧ ((ct < 0 ∧ ki = 0) ∨ (0 ≤ ct ∧ ct % ((A.size : Int) + (B.size : Int) + 1) = ki)) := ⟨k, Lib.hid rfl, by rcases hkc with ⟨h1, h2⟩ | h1; exact .inl ⟨h1, by omega⟩; exact .inr h1⟩
  obtain ⟨ii, hii, HII⟩ : ∃ ii : Int, min (A.size : Int) ki = ii ∧ Hid (ii = ((min A.size k : Nat) : Int)) := ⟨min (A.size : Int) ki, rfl, Lib.hid (by rw [hki.out]; omega)⟩
  obtain ⟨mi, hmi, hmc⟩ : ∃ mi : Int, Hid (mi = (m : Int)) ∧ ((n < 0 ∧ mi = 0) ∨ (0 ≤ n ∧ n % ((T.size : Int) - ii + 1) = mi)) := ⟨m, Lib.hid rfl, by
    rcases hmc with ⟨h1, h2⟩ | ⟨h1, h2⟩
    · exact .inl ⟨h1, by omega⟩
    · refine .inr ⟨h1, ?_⟩
      rw [HII.out, show (T.size : Int) - ((min A.size k : Nat) : Int) + 1 = (k : Int) + (X.size : Int) - min (A.size : Int) (k : Int) + 1 by omega]
      exact h2⟩
  have hb0 : 0 ≤ ii ∧ ii ≤ A.size ∧ ii ≤ ki ∧ 0 ≤ ki ∧ ki ≤ (A.size : Int) + (B.size : Int) ∧ ki ≤ (AB.size : Int) ∧ 0 ≤ mi ∧ ii + mi ≤ (T.size : Int) ∧ (T.size : Int) ≤ 120 ∧ (AB.size : Int) ≤ 80 := by have := HII.out; have := hki.out; have := hmi.out; omega
  obtain ⟨ib0, ib1, ib2, kb0, kb1, kb2, mb0, mb1, tb, abb⟩ := hb0
  have W4c : Hid (cut ⟨1000 - A.size - B.size, [(⟨#[82]⟩, ⟨AB, A.size, true⟩)]⟩ ⟨#[82]⟩ ki = (0, ⟨1000 - A.size - B.size + (A.size + B.size - k), [(⟨#[82]⟩, ⟨E, min A.size k, true⟩)]⟩)) := by
    rw [hki.out]; exact W4
  have he' : AB.extract 0 ki.toNat = E := by rw [hki.out]; exact he
  obtain ⟨FF, hF⟩ : ∃ FF, T.extract 0 (ii + mi).toNat = FF := ⟨_, rfl⟩
  have W6c : Hid (readS (tear ⟨1000 - A.size - B.size + (A.size + B.size - k) - X.size, [(⟨#[82]⟩, ⟨T, min A.size k, true⟩)]⟩ n) ⟨#[82]⟩ = (FF, true)) := by
    have : (ii + mi).toNat = min A.size k + m := by have := HII.out; have := hmi.out; omega
    rw [← hF, this]
    exact W6
  have W7c : Hid (((pressedS ⟨1000 - A.size - B.size + (A.size + B.size - k) - X.size, [(⟨#[82]⟩, ⟨T, min A.size k, true⟩)]⟩ ⟨#[82]⟩ : Nat) : Int) = ii) := Lib.hid (by rw [W7.out]; exact HII.out.symm)
  have eb : E.size ≤ 80 := by omega
  clear sAB sE sT he hst hm hk hmT W4 W6 W7
  have hpre : (ct < 0 ∧ ki = 0 ∧ X = T) ∨ (0 ≤ ct ∧ ct % ((A.size : Int) + (B.size : Int) + 1) = ki) := by
    rcases hkc with ⟨h1, h2⟩ | h1
    · refine .inl ⟨h1, h2, ?_⟩
      have h3 : E.size = 0 := by rw [HSE.out]; have := hki.out; omega
      have h4 : E = ⟨#[]⟩ := ByteArray.ext (Array.eq_empty_of_size_eq_zero h3)
      rw [← ht, h4, empty_app]
    · exact .inr h1
  have hpre2 : (n < 0 ∧ mi = 0 ∧ T.extract 0 ii.toNat = FF) ∨ (0 ≤ n ∧ n % ((T.size : Int) - ii + 1) = mi ∧ T.extract 0 (ii + mi).toNat = FF) := by
    rcases hmc with ⟨h1, h2⟩ | ⟨h1, h2⟩
    · exact .inl ⟨h1, h2, by rw [← hF, h2, Int.add_zero]⟩
    · exact .inr ⟨h1, h2, hF⟩
  clear hkc hmc hF
  rcases hpre with ⟨hc0, rfl, rfl⟩ | ⟨hc0, hc1⟩ <;> rcases hpre2 with ⟨hm0, rfl, hF⟩ | ⟨hm0, hm1, hF⟩
  all_goals
    go_enter Tryd.func3, Tryd.ntmps3
    go_wp2_with fail
    refine HB.out.mono ?_
    rintro _ w1 ⟨rfl, hb⟩
    have HB1 := Lib.hid hb
    clear hb
    go_wp2_with fail
    refine (HCa.out _).mono ?_
    rintro _ _ ⟨rfl, rfl⟩
    go_wp2_with fail
    refine (HCb.out _).mono ?_
    rintro _ _ ⟨rfl, rfl⟩
    go_wp2_with fail
    refine (HCd.out _).mono ?_
    rintro _ _ ⟨rfl, rfl⟩
    go_wp2_with fail
    refine (new_c 1000 HB1.out).mono ?_
    rintro _ w2 ⟨c, rfl, h2⟩
    rw [p_new] at h2
    have H2 := Lib.hid h2
    clear h2
    go_wp2_with fail
    refine (write_c H2.out (by decide) ⟨#[82]⟩ A (by decide)).mono ?_
    rintro _ w3 ⟨rfl, h3⟩
    rw [W1.out] at h3 ⊢
    have H3 := Lib.hid h3
    clear h3
    go_wp2_with fail
    refine (press_c H3.out ⟨#[82]⟩ (by decide)).mono ?_
    rintro _ w4 ⟨rfl, h4⟩
    rw [W2.out] at h4 ⊢
    have H4 := Lib.hid h4
    clear h4
    go_wp2_with fail
    refine (write_c H4.out (by simp) ⟨#[82]⟩ B (by decide)).mono ?_
    rintro _ w5 ⟨rfl, h5⟩
    rw [W3.out] at h5 ⊢
    have H5 := Lib.hid h5
    clear h5
    go_wp2_with fail
    refine (cut_c H5.out ⟨#[82]⟩ (by decide) _).mono ?_
    rintro _ w6 ⟨rfl, h6⟩
    rw [W4c.out] at h6 ⊢
    have H6 := Lib.hid h6
    clear h6
    go_wp2_with fail
    refine (write_c H6.out (by simp) ⟨#[82]⟩ X (by decide)).mono ?_
    rintro _ w7 ⟨rfl, h7⟩
    rw [W5.out] at h7 ⊢
    have H7 := Lib.hid h7
    clear h7
    go_wp2_with fail
    refine (tear_c H7.out (by simp) n).mono ?_
    rintro _ w8 ⟨d1, rfl, h8, h8'⟩
    have H8 := Lib.hid h8
    have H8' := Lib.hid h8'
    clear h8 h8'
    go_wp2_with fail
    refine (read_c H8'.out ⟨#[82]⟩ (by decide)).mono ?_
    rintro _ _ ⟨rfl, rfl⟩
    rw [W6c.out]
    go_wp2_with fail
    refine (pressed_c H8.out ⟨#[82]⟩ (by decide)).mono ?_
    rintro _ _ ⟨rfl, rfl⟩
    rw [W7c.out]
    go_wp2_with fail
    go_ret
    exact ⟨rfl, H8.out.2⟩

theorem rollPress_walk (a b d : ByteArray) (ct n : Int) (w : World) (hbg : BegunTrue3) (h : LibAt w) :
    Calls Tryd.prog 3 #[.string a, .string b, .string d, .int .i64 ct, .int .i64 n] w fun e w' => e = .returned (.bool true) ∧ Below w.heap.size w w' := by
  obtain ⟨k, hk⟩ : ∃ k : Nat, k = if ct < 0 then 0 else ct.toNat % ((cutS a 40).size + (cutS b 40).size + 1) := ⟨_, rfl⟩
  have hkl : k ≤ (cutS a 40).size + (cutS b 40).size := by
    rw [hk]
    split
    · omega
    · have := Nat.mod_lt ct.toNat (show 0 < (cutS a 40).size + (cutS b 40).size + 1 by omega)
      omega
  refine rollPress_in a b d ct n k (n.toNat % (k + (cutS d 40).size - min (cutS a 40).size k + 1)) hkl rfl ?_ ?_ w hbg h
  · by_cases hc : ct < 0
    · rw [if_pos hc] at hk
      exact .inl ⟨hc, hk⟩
    · rw [if_neg hc] at hk
      refine .inr ⟨by omega, ?_⟩
      have := emod_nat ct ((cutS a 40).size + (cutS b 40).size + 1) (by omega)
      rw [hk, ← this]
      rfl
  · by_cases hc : n < 0
    · refine .inl ⟨hc, ?_⟩
      have : n.toNat = 0 := by omega
      rw [this, Nat.zero_mod]
    · refine .inr ⟨by omega, ?_⟩
      have := emod_nat n (k + (cutS d 40).size - min (cutS a 40).size k + 1) (by omega)
      rw [← this]
      congr 1
      omega

end Go.Proofs.YtnobbfidngdmhaaDoor
