/-
 Contracts of the program, and what they rest on.
-/
import Derived.Test.YtlajbminbdhpaaaGreatDoorM09
import Derived.Test.YtlajbminbdhpaaaGreatDoorM03
set_option maxRecDepth 100000
set_option maxHeartbeats 16000000
namespace Go.Proofs.YtlajbminbdhpaaaGreatDoor
open Go.RowKit Go.Proofs.Flo Go.Proofs.Cpl Go.Sort
theorem drop_get (t : ByteArray) (k : Nat) (h : k < t.size) : t.data.toList.drop k = t[k] :: t.data.toList.drop (k + 1) := List.drop_eq_getElem_cons h
theorem drop_end (t : ByteArray) (k : Nat) (h : t.size ≤ k) : t.data.toList.drop k = [] := List.drop_eq_nil_of_le h
theorem keyC_iff (c : UInt8) : keyC c = true ↔ ((97 ≤ c.toNat ∧ c.toNat ≤ 122) ∨ (48 ≤ c.toNat ∧ c.toNat ≤ 57) ∨ c.toNat = 46 ∨ c.toNat = 45 ∨ c.toNat = 95 ∨ c.toNat = 47) := by
 unfold keyC
 simp only [Bool.or_eq_true, Bool.and_eq_true, decide_eq_true_eq, beq_iff_eq]
 omega
theorem rkey_p (t : ByteArray) (hs : t.size ≤ 1000000) (w : World) :
  Calls Tryz.prog 40 #[.string t] w fun e w' => e = .returned (.bool (keyB t)) ∧ w = w' := by
 obtain ⟨R, hR⟩ : ∃ R, keyB t = R := ⟨_, rfl⟩
 obtain ⟨A, hA⟩ : ∃ A, t.data.toList.all keyC = A := ⟨_, rfl⟩
 have hRA : (decide (t.size ≠ 0) && decide (t.size ≤ 40) && A) = R := by rw [← hR, ← hA]; rfl
 have HA := Lib.hid hA
 have HRA := Lib.hid hRA
 rw [hR]
 clear hR hA hRA
 go_enter Tryz.func40, Tryz.ntmps40
 go_wp2
 go_loop [3, 4] (fun i _ => ∃ k : Nat, k ≤ t.size ∧ i = .int .i64 k ∧ Hid ((t.data.toList.drop k).all keyC = A)) (fun i _ => t.size - (intOf i).toNat)
 case atStart => exact ⟨0, by omega, rfl, HA⟩
 case round =>
  obtain ⟨k, hk, rfl, HP⟩ := hrel
  by_cases hlt : k < t.size
  ·have hP := HP.out
   rw [drop_get t k hlt, List.all_cons] at hP
   have hlt' : (k : Int) < (t.size : Int) := by omega
   obtain ⟨c, hc⟩ : ∃ c, t[k] = c := ⟨_, rfl⟩
   rw [hc] at hP
   cases hkc : keyC c with
   | true =>
    rw [hkc, Bool.true_and] at hP
    have HQ := Lib.hid hP
    have hcases := (keyC_iff c).1 hkc

    clear hP hkc
    by_cases a1 : 97 ≤ c.toNat ∧ c.toNat ≤ 122
    ·obtain ⟨a1, a2⟩ := a1
     have b1 : ¬ c.toNat < 97 := by omega
     have b2 : ¬ 122 < c.toNat := by omega
     clear hcases
     go_wp2_with fail
     go_round
     case rel => exact ⟨k + 1, by omega, by go_num, HQ⟩
     case measure => simp [intOf]; omega
    have z1 : (c.toNat < 97 ∨ 122 < c.toNat) := by omega
    by_cases a2 : 48 ≤ c.toNat ∧ c.toNat ≤ 57
    ·obtain ⟨a3, a4⟩ := a2
     have b1 : c.toNat < 97 := by omega
     have b3 : ¬ c.toNat < 48 := by omega
     have b4 : ¬ 57 < c.toNat := by omega
     clear hcases a1 z1
     go_wp2_with fail
     go_round
     case rel => exact ⟨k + 1, by omega, by go_num, HQ⟩
     case measure => simp [intOf]; omega
    rcases hcases with h | h | h | h | h | h
    ·omega
    ·omega
    ·have b1 : c.toNat < 97 := by omega
     have b3 : c.toNat < 48 := by omega
     have e1 : (((c.toNat : Nat) : Int) != 46) = false := by rw [h]; rfl
     clear a1 a2 z1 h
     go_wp2_with fail
     go_round
     case rel => exact ⟨k + 1, by omega, by go_num, HQ⟩
     case measure => simp [intOf]; omega
    ·have b1 : c.toNat < 97 := by omega
     have b3 : c.toNat < 48 := by omega
     have e1 : (((c.toNat : Nat) : Int) != 46) = true := by rw [h]; rfl
     have e2 : (((c.toNat : Nat) : Int) != 45) = false := by rw [h]; rfl
     clear a1 a2 z1 h
     go_wp2_with fail
     go_round
     case rel => exact ⟨k + 1, by omega, by go_num, HQ⟩
     case measure => simp [intOf]; omega
    ·have b1 : c.toNat < 97 := by omega
     have b3 : ¬ c.toNat < 48 := by omega
     have b4 : 57 < c.toNat := by omega
     have e1 : (((c.toNat : Nat) : Int) != 46) = true := by rw [h]; rfl
     have e2 : (((c.toNat : Nat) : Int) != 45) = true := by rw [h]; rfl
     have e3 : (((c.toNat : Nat) : Int) != 95) = false := by rw [h]; rfl
     clear a1 a2 z1 h
     go_wp2_with fail
     go_round
     case rel => exact ⟨k + 1, by omega, by go_num, HQ⟩
     case measure => simp [intOf]; omega
    ·have b1 : c.toNat < 97 := by omega
     have b3 : c.toNat < 48 := by omega
     have e1 : (((c.toNat : Nat) : Int) != 46) = true := by rw [h]; rfl
     have e2 : (((c.toNat : Nat) : Int) != 45) = true := by rw [h]; rfl
     have e3 : (((c.toNat : Nat) : Int) != 95) = true := by rw [h]; rfl
     have e4 : (((c.toNat : Nat) : Int) != 47) = false := by rw [h]; rfl
     clear a1 a2 z1 h
     go_wp2_with fail
     go_round
     case rel => exact ⟨k + 1, by omega, by go_num, HQ⟩
     case measure => simp [intOf]; omega
   | false =>
    have hA : A = false := by rw [← hP, hkc]; rfl
    have hR : R = false := by rw [← HRA.out, hA, Bool.and_false]
    subst hR
    have hno : ¬ ((97 ≤ c.toNat ∧ c.toNat ≤ 122) ∨ (48 ≤ c.toNat ∧ c.toNat ≤ 57) ∨ c.toNat = 46 ∨ c.toNat = 45 ∨ c.toNat = 95 ∨ c.toNat = 47) := fun h => Bool.false_ne_true (hkc.symm.trans ((keyC_iff c).2 h))

    clear hP hkc
    have e1 : (((c.toNat : Nat) : Int) != 46) = true := by rw [bne_iff_ne]; omega
    have e2 : (((c.toNat : Nat) : Int) != 45) = true := by rw [bne_iff_ne]; omega
    have e3 : (((c.toNat : Nat) : Int) != 95) = true := by rw [bne_iff_ne]; omega
    have e4 : (((c.toNat : Nat) : Int) != 47) = true := by rw [bne_iff_ne]; omega
    by_cases b1 : c.toNat < 97
    ·by_cases b3 : c.toNat < 48
     ·clear hno
      go_wp2_with fail
      go_ret
      exact ⟨rfl, rfl⟩
     ·have b4 : 57 < c.toNat := by omega
      clear hno
      go_wp2_with fail
      go_ret
      exact ⟨rfl, rfl⟩
    ·have b2 : 122 < c.toNat := by omega
     have b3 : ¬ c.toNat < 48 := by omega
     have b4 : 57 < c.toNat := by omega
     clear hno
     go_wp2_with fail
     go_ret
     exact ⟨rfl, rfl⟩
  ·have hge : k = t.size := by omega
   have hP := HP.out
   rw [drop_end t k (by omega)] at hP
   obtain rfl : A = true := hP.symm
   have hr := HRA.out
   rw [Bool.and_true] at hr
   clear hP HP HA
   subst hge
   by_cases h1 : t.size ≠ 0
   ·rw [decide_eq_true h1, Bool.true_and] at hr
    have h1' : (1 : Int) ≤ (t.size : Int) := by omega
    have hr' : decide ((t.size : Int) ≤ 40) = R := by rw [← hr]; exact decide_eq_decide.2 (by omega)
    clear hr
    go_wp2
    go_ret
    exact ⟨rfl, rfl⟩
   ·rw [decide_eq_false h1, Bool.false_and] at hr
    subst hr
    have h1' : ¬ (1 : Int) ≤ (t.size : Int) := by omega
    go_wp2
    go_ret
    exact ⟨rfl, rfl⟩
end Go.Proofs.YtlajbminbdhpaaaGreatDoor
