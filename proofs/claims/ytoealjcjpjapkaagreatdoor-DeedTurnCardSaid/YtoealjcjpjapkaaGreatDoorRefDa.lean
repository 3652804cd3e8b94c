/-
 Contracts of the program, and what they rest on.
-/
import Derived.Test.YtoealjcjpjapkaaGreatDoorM12
import Derived.Test.YtoealjcjpjapkaaGreatDoorM03
set_option maxRecDepth 100000
set_option maxHeartbeats 16000000
namespace Go.Proofs.YtoealjcjpjapkaaGreatDoor
open Go.RowKit Go.Proofs.Flo Go.Proofs.Cpl Go.Sort
theorem rmake_p (node n : Int) (h0 : -9223372036854775808 ≤ node) (h1 : node ≤ 9223372036854775807) (h2 : -9223372036854775808 ≤ n) (h3 : n ≤ 9223372036854775807) (w : World) :
  Calls Tryz.prog 17 #[.int .i64 node, .int .i64 n] w fun e w' => e = .returned (.int .i64 (makeP node n)) ∧ w = w' := by
 unfold makeP
 by_cases a : 1 ≤ node ∧ node ≤ 5 ∧ 1 ≤ n ∧ n < 4294967296
 ·rw [if_pos a]
  obtain ⟨a1, a2, a3, a4⟩ := a
  have e1 : IntKind.i64.wrap (node * 4294967296) = node * 4294967296 := IntWalk.i64_in _ (by omega)
  have e2 : IntKind.i64.wrap (node * 4294967296 + n) = node * 4294967296 + n := IntWalk.i64_in _ (by omega)
  have b1 : ¬ node < 1 := by omega
  have b2 : ¬ 5 < node := by omega
  have b3 : ¬ n < 1 := by omega
  have b4 : ¬ 4294967296 ≤ n := by omega
  clear a1 a2 a3 a4
  go_enter Tryz.func17, Tryz.ntmps17
  go_wp2_with fail
  go_ret
  exact ⟨rfl, rfl⟩
 ·rw [if_neg a]
  go_enter Tryz.func17, Tryz.ntmps17
  by_cases b1 : node < 1
  ·clear a
   go_wp2_with fail
   go_ret
   exact ⟨rfl, rfl⟩
  by_cases b2 : 5 < node
  ·clear a
   go_wp2_with fail
   go_ret
   exact ⟨rfl, rfl⟩
  by_cases b3 : n < 1
  ·clear a
   go_wp2_with fail
   go_ret
   exact ⟨rfl, rfl⟩
  have b4 : 4294967296 ≤ n := by omega
  clear a
  go_wp2_with fail
  go_ret
  exact ⟨rfl, rfl⟩
theorem home_hit (r k : Int) (h1 : 1 ≤ k) (h5 : k ≤ 5) (h2 : k * 4294967296 < r) (h3 : r < k * 4294967296 + 4294967296) : homeP r = k := by
 have e1 : r.tdiv 4294967296 = r / 4294967296 := Int.tdiv_eq_ediv_of_nonneg (by omega)
 have e2 : r.tmod 4294967296 = r % 4294967296 := Int.tmod_eq_emod_of_nonneg (by omega)
 unfold homeP
 rw [e1, e2, if_pos (by omega)]
 omega
theorem home_miss (r : Int) (h : ∀ k : Int, 1 ≤ k → k ≤ 5 → ¬ (k * 4294967296 < r ∧ r < k * 4294967296 + 4294967296)) : homeP r = 0 := by
 unfold homeP
 refine if_neg fun ⟨h1, h2, h3⟩ => ?_
 rcases Int.lt_or_le r 0 with hr | hr
 ·have : r.tdiv 4294967296 ≤ 0 := by
   have := Int.tdiv_nonneg (a := -r) (b := 4294967296) (by omega) (by omega)
   rw [Int.neg_tdiv] at this
   omega
  omega
 ·have e1 : r.tdiv 4294967296 = r / 4294967296 := Int.tdiv_eq_ediv_of_nonneg hr
  have e2 : r.tmod 4294967296 = r % 4294967296 := Int.tmod_eq_emod_of_nonneg hr
  rw [e1] at h1 h2
  rw [e2] at h3
  exact h (r / 4294967296) h1 h2 (by omega)
theorem rhome_p (r : Int) (w : World) :
  Calls Tryz.prog 15 #[.int .i64 r] w fun e w' => e = .returned (.int .i64 (homeP r)) ∧ w = w' := by
 obtain ⟨R, hR⟩ : ∃ R, homeP r = R := ⟨_, rfl⟩
 have HR := Lib.hid hR
 rw [hR]
 clear hR
 go_enter Tryz.func15, Tryz.ntmps15
 go_wp2
 go_loop [3, 4] (fun i _ => ∃ k : Int, 1 ≤ k ∧ k ≤ 6 ∧ i = .int .i64 k ∧ Hid (∀ j : Int, 1 ≤ j → j < k → ¬ (j * 4294967296 < r ∧ r < j * 4294967296 + 4294967296))) (fun i _ => (6 - intOf i).toNat)
 case atStart => exact ⟨1, by omega, by omega, rfl, Lib.hid (fun j h1 h2 => by omega)⟩
 case round =>
  obtain ⟨k, hk1, hk6, rfl, HP⟩ := hrel
  by_cases h5 : k ≤ 5
  ·have e1 : IntKind.i64.wrap (k * 4294967296) = k * 4294967296 := IntWalk.i64_in _ (by omega)
   have e2 : IntKind.i64.wrap (k * 4294967296 + 4294967296) = k * 4294967296 + 4294967296 := IntWalk.i64_in _ (by omega)
   have e3 : IntKind.i64.wrap (k + 1) = k + 1 := IntWalk.i64_in _ (by omega)
   by_cases h2 : k * 4294967296 < r
   ·by_cases h3 : r < k * 4294967296 + 4294967296
    ·obtain rfl : R = k := by rw [← HR.out]; exact home_hit r k hk1 h5 h2 h3
     go_wp2_with fail
     go_ret
     exact ⟨rfl, rfl⟩
    ·have HN : Hid (∀ j : Int, 1 ≤ j → j < k + 1 → ¬ (j * 4294967296 < r ∧ r < j * 4294967296 + 4294967296)) := Lib.hid (fun j h1 hj => by
      by_cases e : j = k
      ·subst e; exact fun h => h3 h.2
      ·exact HP.out j h1 (by omega))
     go_wp2_with fail
     go_round
     case rel => exact ⟨k + 1, by omega, by omega, rfl, HN⟩
     case measure => simp [intOf]; omega
   ·have HN : Hid (∀ j : Int, 1 ≤ j → j < k + 1 → ¬ (j * 4294967296 < r ∧ r < j * 4294967296 + 4294967296)) := Lib.hid (fun j h1 hj => by
     by_cases e : j = k
     ·subst e; exact fun h => h2 h.1
     ·exact HP.out j h1 (by omega))
    go_wp2_with fail
    go_round
    case rel => exact ⟨k + 1, by omega, by omega, rfl, HN⟩
    case measure => simp [intOf]; omega
  ·obtain rfl : R = 0 := by rw [← HR.out]; exact home_miss r (fun j h1 h2 => HP.out j h1 (by omega))
   go_wp2_with fail
   go_ret
   exact ⟨rfl, rfl⟩
theorem drop_get (t : ByteArray) (k : Nat) (h : k < t.size) : t.data.toList.drop k = t[k] :: t.data.toList.drop (k + 1) := List.drop_eq_getElem_cons h
theorem drop_end (t : ByteArray) (k : Nat) (h : t.size ≤ k) : t.data.toList.drop k = [] := List.drop_eq_nil_of_le h
theorem keyC_iff (c : UInt8) : keyC c = true ↔ ((97 ≤ c.toNat ∧ c.toNat ≤ 122) ∨ (48 ≤ c.toNat ∧ c.toNat ≤ 57) ∨ c.toNat = 46 ∨ c.toNat = 45 ∨ c.toNat = 95 ∨ c.toNat = 47) := by
 unfold keyC
 simp only [Bool.or_eq_true, Bool.and_eq_true, decide_eq_true_eq, beq_iff_eq]
 omega
theorem rkey_p (t : ByteArray) (hs : t.size ≤ 1000000) (w : World) :
  Calls Tryz.prog 13 #[.string t] w fun e w' => e = .returned (.bool (keyB t)) ∧ w = w' := by
 obtain ⟨R, hR⟩ : ∃ R, keyB t = R := ⟨_, rfl⟩
 obtain ⟨A, hA⟩ : ∃ A, t.data.toList.all keyC = A := ⟨_, rfl⟩
 have hRA : (decide (t.size ≠ 0) && decide (t.size ≤ 40) && A) = R := by rw [← hR, ← hA]; rfl
 have HA := Lib.hid hA
 have HRA := Lib.hid hRA
 rw [hR]
 clear hR hA hRA
 go_enter Tryz.func13, Tryz.ntmps13
 go_wp2
 go_loop [3, 4] (fun i _ => ∃ k : Nat, k ≤ t.size ∧ i = .int .i64 k ∧ Hid ((t.data.toList.drop k).all keyC = A)) (fun i _ => t.size - (intOf i).toNat)
 case atStart => exact ⟨0, by omega, rfl, HA⟩
 case round =>
  obtain ⟨k, hk, rfl, HP⟩ := hrel
  by_cases hlt : k < t.size
  ·have hP := HP.out
   rw [drop_get t k hlt, List.all_cons] at hP
   have hlt' : (k : Int) < (t.size : Int) := by omega
   obtain ⟨c, hc⟩ : ∃ c, t[k] = c := ⟨_, rfl⟩
   rw [hc] at hP
   cases hkc : keyC c with
   | true =>
    rw [hkc, Bool.true_and] at hP
    have HQ := Lib.hid hP
    have hcases := (keyC_iff c).1 hkc

    clear hP hkc
    by_cases a1 : 97 ≤ c.toNat ∧ c.toNat ≤ 122
    ·obtain ⟨a1, a2⟩ := a1
     have b1 : ¬ c.toNat < 97 := by omega
     have b2 : ¬ 122 < c.toNat := by omega
     clear hcases
     go_wp2_with fail
     go_round
     case rel => exact ⟨k + 1, by omega, by go_num, HQ⟩
     case measure => simp [intOf]; omega
    have z1 : (c.toNat < 97 ∨ 122 < c.toNat) := by omega
    by_cases a2 : 48 ≤ c.toNat ∧ c.toNat ≤ 57
    ·obtain ⟨a3, a4⟩ := a2
     have b1 : c.toNat < 97 := by omega
     have b3 : ¬ c.toNat < 48 := by omega
     have b4 : ¬ 57 < c.toNat := by omega
     clear hcases a1 z1
     go_wp2_with fail
     go_round
     case rel => exact ⟨k + 1, by omega, by go_num, HQ⟩
     case measure => simp [intOf]; omega
    rcases hcases with h | h | h | h | h | h
    ·omega
    ·omega
    ·have b1 : c.toNat < 97 := by omega
     have b3 : c.toNat < 48 := by omega
     have e1 : (((c.toNat : Nat) : Int) != 46) = false := by rw [h]; rfl
     clear a1 a2 z1 h
     go_wp2_with fail
     go_round
     case rel => exact ⟨k + 1, by omega, by go_num, HQ⟩
     case measure => simp [intOf]; omega
    ·have b1 : c.toNat < 97 := by omega
     have b3 : c.toNat < 48 := by omega
     have e1 : (((c.toNat : Nat) : Int) != 46) = true := by rw [h]; rfl
     have e2 : (((c.toNat : Nat) : Int) != 45) = false := by rw [h]; rfl
     clear a1 a2 z1 h
     go_wp2_with fail
     go_round
     case rel => exact ⟨k + 1, by omega, by go_num, HQ⟩
     case measure => simp [intOf]; omega
    ·have b1 : c.toNat < 97 := by omega
     have b3 : ¬ c.toNat < 48 := by omega
     have b4 : 57 < c.toNat := by omega
     have e1 : (((c.toNat : Nat) : Int) != 46) = true := by rw [h]; rfl
     have e2 : (((c.toNat : Nat) : Int) != 45) = true := by rw [h]; rfl
     have e3 : (((c.toNat : Nat) : Int) != 95) = false := by rw [h]; rfl
     clear a1 a2 z1 h
     go_wp2_with fail
     go_round
     case rel => exact ⟨k + 1, by omega, by go_num, HQ⟩
     case measure => simp [intOf]; omega
    ·have b1 : c.toNat < 97 := by omega
     have b3 : c.toNat < 48 := by omega
     have e1 : (((c.toNat : Nat) : Int) != 46) = true := by rw [h]; rfl
     have e2 : (((c.toNat : Nat) : Int) != 45) = true := by rw [h]; rfl
     have e3 : (((c.toNat : Nat) : Int) != 95) = true := by rw [h]; rfl
     have e4 : (((c.toNat : Nat) : Int) != 47) = false := by rw [h]; rfl
     clear a1 a2 z1 h
     go_wp2_with fail
     go_round
     case rel => exact ⟨k + 1, by omega, by go_num, HQ⟩
     case measure => simp [intOf]; omega
   | false =>
    have hA : A = false := by rw [← hP, hkc]; rfl
    have hR : R = false := by rw [← HRA.out, hA, Bool.and_false]
    subst hR
    have hno : ¬ ((97 ≤ c.toNat ∧ c.toNat ≤ 122) ∨ (48 ≤ c.toNat ∧ c.toNat ≤ 57) ∨ c.toNat = 46 ∨ c.toNat = 45 ∨ c.toNat = 95 ∨ c.toNat = 47) := fun h => Bool.false_ne_true (hkc.symm.trans ((keyC_iff c).2 h))

    clear hP hkc
    have e1 : (((c.toNat : Nat) : Int) != 46) = true := by rw [bne_iff_ne]; omega
    have e2 : (((c.toNat : Nat) : Int) != 45) = true := by rw [bne_iff_ne]; omega
    have e3 : (((c.toNat : Nat) : Int) != 95) = true := by rw [bne_iff_ne]; omega
    have e4 : (((c.toNat : Nat) : Int) != 47) = true := by rw [bne_iff_ne]; omega
    by_cases b1 : c.toNat < 97
    ·by_cases b3 : c.toNat < 48
     ·clear hno
      go_wp2_with fail
      go_ret
      exact ⟨rfl, rfl⟩
     ·have b4 : 57 < c.toNat := by omega
      clear hno
      go_wp2_with fail
      go_ret
      exact ⟨rfl, rfl⟩
    ·have b2 : 122 < c.toNat := by omega
     have b3 : ¬ c.toNat < 48 := by omega
     have b4 : 57 < c.toNat := by omega
     clear hno
     go_wp2_with fail
     go_ret
     exact ⟨rfl, rfl⟩
  ·have hge : k = t.size := by omega
   have hP := HP.out
   rw [drop_end t k (by omega)] at hP
   obtain rfl : A = true := hP.symm
   have hr := HRA.out
   rw [Bool.and_true] at hr
   clear hP HP HA
   subst hge
   by_cases h1 : t.size ≠ 0
   ·rw [decide_eq_true h1, Bool.true_and] at hr
    have h1' : (1 : Int) ≤ (t.size : Int) := by omega
    have hr' : decide ((t.size : Int) ≤ 40) = R := by rw [← hr]; exact decide_eq_decide.2 (by omega)
    clear hr
    go_wp2
    go_ret
    exact ⟨rfl, rfl⟩
   ·rw [decide_eq_false h1, Bool.false_and] at hr
    subst hr
    have h1' : ¬ (1 : Int) ≤ (t.size : Int) := by omega
    go_wp2
    go_ret
    exact ⟨rfl, rfl⟩
end Go.Proofs.YtoealjcjpjapkaaGreatDoor
