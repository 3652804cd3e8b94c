/-
  The contracts of pouch's pure, length and cut.
-/
import Derived.Test.YtmamepmfbfinlaaGreatDoorProg
import Derived.WalkKit
import Derived.WalkSpells
import Derived.WalkLawsBesides
import Derived.Lib.Hide
import Derived.Lib.Strings
namespace Go.Proofs.YtmamepmfbfinlaaGreatDoor
open Go.RowKit

/-- A length's digits: the length, how many bytes it takes with its colon, the error (0 none, 1 form, 2 more). -/
def lenP (n k : Nat) : List UInt8 → Nat × Nat × Nat
  | [] => (0, 0, 2)
  | c :: l =>
    if 48 ≤ c.toNat ∧ c.toNat ≤ 57 then
      if (0 < k ∧ n = 0) ∨ k = 7 then (0, 0, 1) else lenP (n * 10 + (c.toNat - 48)) (k + 1) l
    else if k = 0 ∨ c.toNat ≠ 58 then (0, 0, 1) else (n, k + 1, 0)

theorem pow10_le (k : Nat) (h : k ≤ 7) : 10 ^ k ≤ 10000000 := by
  rcases k with _|_|_|_|_|_|_|_|k
  all_goals first | decide | (exfalso; omega)

theorem get_list (t : ByteArray) (k : Nat) (h : k < t.size) : t.data.toList.drop k = t[k] :: t.data.toList.drop (k + 1) :=
  List.drop_eq_getElem_cons (show k < t.data.toList.length from h)

theorem get_end (t : ByteArray) (k : Nat) (h : t.size ≤ k) : t.data.toList.drop k = [] :=
  List.drop_eq_nil_of_le (show t.data.toList.length ≤ k from h)

set_option maxRecDepth 100000 in
set_option maxHeartbeats 4000000 in
theorem length_p (t : ByteArray) (hs : t.size ≤ 9223372036854775807) (w : World) :
    Calls Tryz.prog 86 #[.string t] w fun e w' => e = .returned (.tuple #[.int .i64 (lenP 0 0 t.data.toList).1, .int .i64 (lenP 0 0 t.data.toList).2.1, .int .i64 (lenP 0 0 t.data.toList).2.2]) ∧ w = w' := by
  obtain ⟨R, hR⟩ : ∃ R, lenP 0 0 t.data.toList = R := ⟨_, rfl⟩
  rw [hR]
  have HR0 := Lib.hid hR
  clear hR
  go_enter Tryz.func86, Tryz.ntmps86
  go_wp2
  go_loopw [5, 6, 7] (fun n i x wr => ∃ k m : Nat, k ≤ 7 ∧ k ≤ t.size ∧ n = .int .i64 m ∧ i = .int .i64 k ∧ m < 10 ^ k ∧ Hid (lenP m k (t.data.toList.drop k) = R) ∧ Hid (w = wr)) (fun _ i _ _ => t.size - (intOf i).toNat)
  case atStart =>
    exact ⟨0, 0, by omega, by omega, rfl, rfl, by decide, HR0, Lib.hid rfl⟩
  case round =>
    obtain ⟨k, m, hk7, hks, rfl, rfl, hm, HP, HW⟩ := hrel
    have hp10 := pow10_le k hk7
    by_cases hlt : k < t.size
    · have hc := get_list t k hlt
      have hP := HP.out
      rw [hc] at hP
      unfold lenP at hP
      have hl' : (k : Int) < (t.size : Int) := by omega
      by_cases hd : 48 ≤ t[k].toNat ∧ t[k].toNat ≤ 57
      · obtain ⟨hd0, hd1⟩ := hd
        rw [if_pos ⟨hd0, hd1⟩] at hP
        by_cases hz : (0 < k ∧ m = 0) ∨ k = 7
        · rw [if_pos hz] at hP
          subst hP
          by_cases h7 : k = 7
          · subst h7
            by_cases hm0 : m = 0
            · subst hm0
              clear hc hz hm hp10
              go_wp2
              exact bodyPost_ret (v := .tuple #[.int .i64 _, .int .i64 _, .int .i64 _]) (by first | (simp [results, Tryz.results86, go_sem]; done) | (simp [results, Tryz.results86, go_sem]; exact ⟨rfl, rfl, rfl⟩)) rfl ⟨rfl, HW.out⟩
            · have hm0' : ¬ (m : Int) = 0 := by omega
              clear hc hz hm hp10
              go_wp2
              exact bodyPost_ret (v := .tuple #[.int .i64 _, .int .i64 _, .int .i64 _]) (by first | (simp [results, Tryz.results86, go_sem]; done) | (simp [results, Tryz.results86, go_sem]; exact ⟨rfl, rfl, rfl⟩)) rfl ⟨rfl, HW.out⟩
          · have hk0 : 0 < k := by omega
            obtain rfl : m = 0 := by omega
            clear hc hz hm hp10
            go_wp2
            exact bodyPost_ret (v := .tuple #[.int .i64 _, .int .i64 _, .int .i64 _]) (by first | (simp [results, Tryz.results86, go_sem]; done) | (simp [results, Tryz.results86, go_sem]; exact ⟨rfl, rfl, rfl⟩)) rfl ⟨rfl, HW.out⟩
        · rw [if_neg hz] at hP
          have h7 : ¬ (k : Int) = 7 := by omega
          have e1 : IntKind.u8.wrap ((t[k].toNat : Int) - 48) = (t[k].toNat : Int) - 48 := IntWalk.u8_in _ (by omega)
          have hHP := Lib.hid hP
          have hm' : m * 10 + (t[k].toNat - 48) < 10 ^ (k + 1) := by rw [Nat.pow_succ]; omega
          have hHM := Lib.hid hm'
          have hmb : (m : Int) ≤ 10000000 := by omega
          have hq : 10 * (m : Int) + ((t[k].toNat : Int) - 48) = ((m * 10 + (t[k].toNat - 48) : Nat) : Int) := by omega
          have hHQ := Lib.hid hq
          by_cases hk0 : 0 < k
          · have hm0 : ¬ (m : Int) = 0 := by omega
            have hk0' : 0 < (k : Int) := by omega
            have b0 : ((m : Int) == 0) = false := by rw [beq_eq_false_iff_ne]; omega
            have b7 : ((k : Int) == 7) = false := by rw [beq_eq_false_iff_ne]; omega
            clear hc hz hm hP hm' hq
            go_wp2
            go_roundw
            case rel => exact ⟨k + 1, _, by omega, by omega, by first | rfl | exact congrArg (Value.int .i64) hHQ.out, by go_num, hHM.out, hHP, HW⟩
            case measure => simp [intOf]; omega
          · obtain rfl : k = 0 := by omega
            clear hc hz hm hP hm' hq hk0
            go_wp2
            go_roundw
            case rel => exact ⟨0 + 1, _, by omega, by omega, by first | rfl | exact congrArg (Value.int .i64) hHQ.out, by go_num, hHM.out, hHP, HW⟩
            case measure => simp [intOf]; omega
      · rw [if_neg hd] at hP
        have hne : ¬ (k : Int) = (t.size : Int) := by omega
        by_cases hk0 : k = 0
        · subst hk0
          rw [if_pos (Or.inl rfl)] at hP
          subst hP
          by_cases hd0 : 48 ≤ t[0].toNat
          · have hd1 : ¬ (t[0].toNat : Int) ≤ 57 := by omega
            have hd0' : 48 ≤ (t[0].toNat : Int) := by omega
            clear hc hm hp10 hd
            go_wp2
            exact bodyPost_ret (v := .tuple #[.int .i64 _, .int .i64 _, .int .i64 _]) (by first | (simp [results, Tryz.results86, go_sem]; done) | (simp [results, Tryz.results86, go_sem]; exact ⟨rfl, rfl, rfl⟩)) rfl ⟨rfl, HW.out⟩
          · have hd0' : ¬ 48 ≤ (t[0].toNat : Int) := by omega
            clear hc hm hp10 hd
            go_wp2
            exact bodyPost_ret (v := .tuple #[.int .i64 _, .int .i64 _, .int .i64 _]) (by first | (simp [results, Tryz.results86, go_sem]; done) | (simp [results, Tryz.results86, go_sem]; exact ⟨rfl, rfl, rfl⟩)) rfl ⟨rfl, HW.out⟩
        · have hk0' : ¬ (k : Int) = 0 := by omega
          by_cases h58 : t[k].toNat = 58
          · rw [if_neg (by omega)] at hP
            subst hP
            have h58' : (t[k].toNat : Int) = 58 := by omega
            have e58 : t[k] = 58 := UInt8.toNat_inj.1 h58
            clear hc hm hp10 hd
            go_wp2
            exact bodyPost_ret (v := .tuple #[.int .i64 _, .int .i64 _, .int .i64 _]) (by first | (simp [results, Tryz.results86, go_sem]; done) | (simp [results, Tryz.results86, go_sem]; exact ⟨rfl, rfl, rfl⟩)) rfl ⟨rfl, HW.out⟩
          · rw [if_pos (Or.inr h58)] at hP
            subst hP
            have h58' : ((t[k].toNat : Int) != 58) = true := by rw [bne_iff_ne]; omega
            by_cases hd0 : 48 ≤ t[k].toNat
            · have hd1 : ¬ (t[k].toNat : Int) ≤ 57 := by omega
              have hd0' : 48 ≤ (t[k].toNat : Int) := by omega
              clear hc hm hp10 hd
              go_wp2
              exact bodyPost_ret (v := .tuple #[.int .i64 _, .int .i64 _, .int .i64 _]) (by first | (simp [results, Tryz.results86, go_sem]; done) | (simp [results, Tryz.results86, go_sem]; exact ⟨rfl, rfl, rfl⟩)) rfl ⟨rfl, HW.out⟩
            · have hd0' : ¬ 48 ≤ (t[k].toNat : Int) := by omega
              clear hc hm hp10 hd
              go_wp2
              exact bodyPost_ret (v := .tuple #[.int .i64 _, .int .i64 _, .int .i64 _]) (by first | (simp [results, Tryz.results86, go_sem]; done) | (simp [results, Tryz.results86, go_sem]; exact ⟨rfl, rfl, rfl⟩)) rfl ⟨rfl, HW.out⟩
    · have hc := get_end t k (by omega)
      have hP := HP.out
      rw [hc] at hP
      unfold lenP at hP
      subst hP
      have hl' : ¬ (k : Int) < (t.size : Int) := by omega
      have hl2 : (k : Int) = (t.size : Int) := by omega
      go_wp2
      exact bodyPost_ret (v := .tuple #[.int .i64 _, .int .i64 _, .int .i64 _]) (by first | (simp [results, Tryz.results86, go_sem]; done) | (simp [results, Tryz.results86, go_sem]; exact ⟨rfl, rfl, rfl⟩)) rfl ⟨rfl, HW.out⟩

/-- The bounds of what lenP tells. -/
theorem lenP_le (l : List UInt8) (n k : Nat) (hk : k ≤ 7) (hn : n < 10 ^ k) (h0 : (lenP n k l).2.2 = 0) : (lenP n k l).1 ≤ 9999999 ∧ (lenP n k l).2.1 ≤ k + l.length ∧ k < (lenP n k l).2.1 ∧ (lenP n k l).2.1 ≤ 8 := by
  induction l generalizing n k with
  | nil => simp [lenP] at h0
  | cons c l ih =>
    unfold lenP at h0 ⊢
    by_cases hd : 48 ≤ c.toNat ∧ c.toNat ≤ 57
    · rw [if_pos hd] at h0 ⊢
      by_cases hz : (0 < k ∧ n = 0) ∨ k = 7
      · rw [if_pos hz] at h0; simp at h0
      · rw [if_neg hz] at h0 ⊢
        have := ih (n * 10 + (c.toNat - 48)) (k + 1) (by omega) (by rw [Nat.pow_succ]; omega) h0
        simp only [List.length_cons]
        omega
    · rw [if_neg hd] at h0 ⊢
      by_cases hz : k = 0 ∨ c.toNat ≠ 58
      · rw [if_pos hz] at h0; simp at h0
      · rw [if_neg hz]
        simp only [List.length_cons]
        have := pow10_le k hk
        refine ⟨?_, by omega, by omega, by omega⟩
        show n ≤ 9999999
        omega

theorem lenP_err (l : List UInt8) (n k : Nat) (h0 : (lenP n k l).2.2 ≠ 0) : ((lenP n k l).1 = 0 ∧ (lenP n k l).2.1 = 0) ∧ ((lenP n k l).2.2 = 1 ∨ (lenP n k l).2.2 = 2) := by
  induction l generalizing n k with
  | nil => simp [lenP]
  | cons c l ih =>
    unfold lenP at h0 ⊢
    by_cases hd : 48 ≤ c.toNat ∧ c.toNat ≤ 57
    · rw [if_pos hd] at h0 ⊢
      by_cases hz : (0 < k ∧ n = 0) ∨ k = 7
      · rw [if_pos hz]; simp
      · rw [if_neg hz] at h0 ⊢
        exact ih _ _ h0
    · rw [if_neg hd] at h0 ⊢
      by_cases hz : k = 0 ∨ c.toNat ≠ 58
      · rw [if_pos hz]; simp
      · rw [if_neg hz] at h0; simp at h0

/-- What is cut: the text, how many bytes with its length and its end, the error. -/
def cutP (t : ByteArray) : ByteArray × Nat × Nat :=
  let r := lenP 0 0 t.data.toList
  if r.2.2 = 0 then (if t.size - r.2.1 ≤ r.1 then (⟨#[]⟩, 0, 2) else (t.extract r.2.1 (r.2.1 + r.1), r.2.1 + r.1 + 1, 0)) else (⟨#[]⟩, 0, r.2.2)

set_option maxRecDepth 100000 in
set_option maxHeartbeats 4000000 in
theorem cut_p (t : ByteArray) (hs : t.size ≤ 9223372036854775807) (w : World) :
    Calls Tryz.prog 74 #[.string t] w fun e w' => e = .returned (.tuple #[.string (cutP t).1, .int .i64 (cutP t).2.1, .int .i64 (cutP t).2.2]) ∧ w = w' := by
  have HL := length_p t hs
  unfold cutP
  have hle := lenP_le t.data.toList 0 0 (by omega) (by decide)
  have her := lenP_err t.data.toList 0 0
  generalize lenP 0 0 t.data.toList = r at *
  obtain ⟨n, k, e⟩ := r
  simp only at *
  rw [show t.data.toList.length = t.size from rfl] at hle
  by_cases h0 : e = 0
  · subst h0
    obtain ⟨h1, h2, h3, h4⟩ := hle rfl
    have HL' := Lib.hid HL
    clear hle her HL
    rw [if_pos rfl]
    have hk : (k : Int) ≤ t.size := by omega
    by_cases hm : t.size - k ≤ n
    · rw [if_pos hm]
      have hm' : (t.size : Int) - k ≤ n := by omega
      clear hm
      go_enter Tryz.func74, Tryz.ntmps74
      go_wp2_with fail
      refine (HL'.out _).mono ?_
      rintro _ w' ⟨rfl, rfl⟩
      go_wp2_with fail
      exact bodyPost_ret (v := .tuple #[.string _, .int .i64 _, .int .i64 _]) (by first | (simp [results, Tryz.results74, go_sem]; done) | (simp [results, Tryz.results74, go_sem]; exact ⟨rfl, rfl, rfl⟩)) rfl ⟨rfl, rfl⟩
    · rw [if_neg hm]
      have hm' : ¬ (t.size : Int) - k ≤ n := by omega
      have hm2 : (k : Int) + n ≤ t.size := by omega
      have hm3 : k + n ≤ t.size := by omega
      clear hm
      go_enter Tryz.func74, Tryz.ntmps74
      go_wp2_with fail
      refine (HL'.out _).mono ?_
      rintro _ w' ⟨rfl, rfl⟩
      go_wp2_with fail
      exact bodyPost_ret (v := .tuple #[.string _, .int .i64 _, .int .i64 _]) (by first | (simp [results, Tryz.results74, go_sem]; done) | (simp [results, Tryz.results74, go_sem]; exact ⟨rfl, rfl, rfl⟩)) rfl ⟨rfl, rfl⟩
  · rw [if_neg h0]
    obtain ⟨⟨rfl, rfl⟩, he⟩ := her h0
    have HL' := Lib.hid HL
    have h0' : ((e : Int) != 0) = true := by rw [bne_iff_ne]; omega
    clear hle her HL he h0
    go_enter Tryz.func74, Tryz.ntmps74
    go_wp2_with fail
    refine (HL'.out _).mono ?_
    rintro _ w' ⟨rfl, rfl⟩
    go_wp2_with fail
    exact bodyPost_ret (v := .tuple #[.string _, .int .i64 _, .int .i64 _]) (by first | (simp [results, Tryz.results74, go_sem]; done) | (simp [results, Tryz.results74, go_sem]; exact ⟨rfl, rfl, rfl⟩)) rfl ⟨rfl, rfl⟩

/-- Just what its kind has? -/
def pureB (k n : Int) (s : ByteArray) (len : Nat) : Bool :=
  if k = 1 then s.toList.isEmpty && decide (len = 0) else if k = 2 then decide (n = 0) && decide (len = 0) else if k = 3 then decide (n = 0) && s.toList.isEmpty else false

set_option maxRecDepth 100000 in
set_option maxHeartbeats 4000000 in
theorem pure_p (k n : Int) (s : ByteArray) (ad : Option Addr) (len cap : Nat) (w : World) :
    Calls Tryz.prog 83 #[.agg #[.int .i64 k, .int .i64 n, .string s, .slice ad len cap]] w fun e w' => e = .returned (.bool (pureB k n s len)) ∧ Below w.heap.size w w' := by
  unfold pureB
  by_cases h1 : k = 1
  · subst h1
    rw [if_pos rfl]
    cases hs : s.toList.isEmpty
    · go_enter Tryz.func83, Tryz.ntmps83
      go_wp2
      go_ret
      exact ⟨rfl, (Below.refl _ _).alloc (Nat.le_refl _) _⟩
    · go_enter Tryz.func83, Tryz.ntmps83
      go_wp2
      go_ret
      refine ⟨?_, (Below.refl _ _).alloc (Nat.le_refl _) _⟩
      by_cases hl : len = 0 <;> simp [hl]
  · rw [if_neg h1]
    have h1' : (k == 1) = false := by rw [beq_eq_false_iff_ne]; exact h1
    by_cases h2 : k = 2
    · subst h2
      rw [if_pos rfl]
      by_cases hn : n = 0
      · subst hn
        go_enter Tryz.func83, Tryz.ntmps83
        go_wp2
        go_ret
        refine ⟨?_, (Below.refl _ _).alloc (Nat.le_refl _) _⟩
        by_cases hl : len = 0 <;> simp [hl]
      · have hn' : (n == 0) = false := by rw [beq_eq_false_iff_ne]; exact hn
        go_enter Tryz.func83, Tryz.ntmps83
        go_wp2
        go_ret
        exact ⟨by simp [hn], (Below.refl _ _).alloc (Nat.le_refl _) _⟩
    · rw [if_neg h2]
      have h2' : (k == 2) = false := by rw [beq_eq_false_iff_ne]; exact h2
      by_cases h3 : k = 3
      · subst h3
        rw [if_pos rfl]
        by_cases hn : n = 0
        · subst hn
          go_enter Tryz.func83, Tryz.ntmps83
          go_wp2
          go_ret
          exact ⟨by simp, (Below.refl _ _).alloc (Nat.le_refl _) _⟩
        · have hn' : (n == 0) = false := by rw [beq_eq_false_iff_ne]; exact hn
          go_enter Tryz.func83, Tryz.ntmps83
          go_wp2
          go_ret
          exact ⟨by simp [hn], (Below.refl _ _).alloc (Nat.le_refl _) _⟩
      · rw [if_neg h3]
        have h3' : (k == 3) = false := by rw [beq_eq_false_iff_ne]; exact h3
        go_enter Tryz.func83, Tryz.ntmps83
        go_wp2
        go_ret
        exact ⟨rfl, (Below.refl _ _).alloc (Nat.le_refl _) _⟩

end Go.Proofs.YtmamepmfbfinlaaGreatDoor
