/-
  Contracts of the program, and what they rest on.
-/
import Derived.Test.YtaacdggjkfmehaaGreatDoorProg
import Derived.WalkKit
import Derived.WalkSpells
import Derived.WalkLawsBesides
import Derived.Lib.Hide
import Derived.Lib.Strings
import Derived.Test.YtaacdggjkfmehaaGreatDoorM07
import Derived.Lib.AppendStr
import Derived.Lib.AppendIntMem
import Derived.Lib.ItoaLen
import Derived.OrdersHeld
import Derived.Deep.RegionHeld
namespace Go.Proofs.YtaacdggjkfmehaaGreatDoor
open Go.RowKit
def lenP (n k : Nat) : List UInt8 → Nat × Nat × Nat
  | [] => (0, 0, 2)
  | c :: l =>
    if 48 ≤ c.toNat ∧ c.toNat ≤ 57 then
      if (0 < k ∧ n = 0) ∨ k = 7 then (0, 0, 1) else lenP (n * 10 + (c.toNat - 48)) (k + 1) l
    else if k = 0 ∨ c.toNat ≠ 58 then (0, 0, 1) else (n, k + 1, 0)
theorem pow10_le (k : Nat) (h : k ≤ 7) : 10 ^ k ≤ 10000000 := by
  rcases k with _|_|_|_|_|_|_|_|k
  all_goals first | decide | (exfalso; omega)
theorem get_list (t : ByteArray) (k : Nat) (h : k < t.size) : t.data.toList.drop k = t[k] :: t.data.toList.drop (k + 1) :=
  List.drop_eq_getElem_cons (show k < t.data.toList.length from h)
theorem get_end (t : ByteArray) (k : Nat) (h : t.size ≤ k) : t.data.toList.drop k = [] :=
  List.drop_eq_nil_of_le (show t.data.toList.length ≤ k from h)
set_option maxRecDepth 100000 in
set_option maxHeartbeats 4000000 in
theorem length_p (t : ByteArray) (hs : t.size ≤ 9223372036854775807) (w : World) :
    Calls Tryz.prog 128 #[.string t] w fun e w' => e = .returned (.tuple #[.int .i64 (lenP 0 0 t.data.toList).1, .int .i64 (lenP 0 0 t.data.toList).2.1, .int .i64 (lenP 0 0 t.data.toList).2.2]) ∧ w = w' := by
  obtain ⟨R, hR⟩ : ∃ R, lenP 0 0 t.data.toList = R := ⟨_, rfl⟩
  rw [hR]
  have HR0 := Lib.hid hR
  clear hR
  go_enter Tryz.func128, Tryz.ntmps128
  go_wp2
  go_loopw [5, 6, 7] (fun n i x wr => ∃ k m : Nat, k ≤ 7 ∧ k ≤ t.size ∧ n = .int .i64 m ∧ i = .int .i64 k ∧ m < 10 ^ k ∧ Hid (lenP m k (t.data.toList.drop k) = R) ∧ Hid (w = wr)) (fun _ i _ _ => t.size - (intOf i).toNat)
  case atStart =>
    exact ⟨0, 0, by omega, by omega, rfl, rfl, by decide, HR0, Lib.hid rfl⟩
  case round =>
    obtain ⟨k, m, hk7, hks, rfl, rfl, hm, HP, HW⟩ := hrel
    have hp10 := pow10_le k hk7
    by_cases hlt : k < t.size
    · have hc := get_list t k hlt
      have hP := HP.out
      rw [hc] at hP
      unfold lenP at hP
      have hl' : (k : Int) < (t.size : Int) := by omega
      by_cases hd : 48 ≤ t[k].toNat ∧ t[k].toNat ≤ 57
      · obtain ⟨hd0, hd1⟩ := hd
        rw [if_pos ⟨hd0, hd1⟩] at hP
        by_cases hz : (0 < k ∧ m = 0) ∨ k = 7
        · rw [if_pos hz] at hP
          subst hP
          by_cases h7 : k = 7
          · subst h7
            by_cases hm0 : m = 0
            · subst hm0
              clear hc hz hm hp10
              go_wp2
              exact bodyPost_ret (v := .tuple #[.int .i64 _, .int .i64 _, .int .i64 _]) (by first | (simp [results, Tryz.results128, go_sem]; done) | (simp [results, Tryz.results128, go_sem]; exact ⟨rfl, rfl, rfl⟩)) rfl ⟨rfl, HW.out⟩
            · have hm0' : ¬ (m : Int) = 0 := by omega
              clear hc hz hm hp10
              go_wp2
              exact bodyPost_ret (v := .tuple #[.int .i64 _, .int .i64 _, .int .i64 _]) (by first | (simp [results, Tryz.results128, go_sem]; done) | (simp [results, Tryz.results128, go_sem]; exact ⟨rfl, rfl, rfl⟩)) rfl ⟨rfl, HW.out⟩
          · have hk0 : 0 < k := by omega
            obtain rfl : m = 0 := by omega
            clear hc hz hm hp10
            go_wp2
            exact bodyPost_ret (v := .tuple #[.int .i64 _, .int .i64 _, .int .i64 _]) (by first | (simp [results, Tryz.results128, go_sem]; done) | (simp [results, Tryz.results128, go_sem]; exact ⟨rfl, rfl, rfl⟩)) rfl ⟨rfl, HW.out⟩
        · rw [if_neg hz] at hP
          have h7 : ¬ (k : Int) = 7 := by omega
          have e1 : IntKind.u8.wrap ((t[k].toNat : Int) - 48) = (t[k].toNat : Int) - 48 := IntWalk.u8_in _ (by omega)
          have hHP := Lib.hid hP
          have hm' : m * 10 + (t[k].toNat - 48) < 10 ^ (k + 1) := by rw [Nat.pow_succ]; omega
          have hHM := Lib.hid hm'
          have hmb : (m : Int) ≤ 10000000 := by omega
          have hq : 10 * (m : Int) + ((t[k].toNat : Int) - 48) = ((m * 10 + (t[k].toNat - 48) : Nat) : Int) := by omega
          have hHQ := Lib.hid hq
          by_cases hk0 : 0 < k
          · have hm0 : ¬ (m : Int) = 0 := by omega
            have hk0' : 0 < (k : Int) := by omega
            have b0 : ((m : Int) == 0) = false := by rw [beq_eq_false_iff_ne]; omega
            have b7 : ((k : Int) == 7) = false := by rw [beq_eq_false_iff_ne]; omega
            clear hc hz hm hP hm' hq
            go_wp2
            go_roundw
            case rel => exact ⟨k + 1, _, by omega, by omega, by first | rfl | exact congrArg (Value.int .i64) hHQ.out, by go_num, hHM.out, hHP, HW⟩
            case measure => simp [intOf]; omega
          · obtain rfl : k = 0 := by omega
            clear hc hz hm hP hm' hq hk0
            go_wp2
            go_roundw
            case rel => exact ⟨0 + 1, _, by omega, by omega, by first | rfl | exact congrArg (Value.int .i64) hHQ.out, by go_num, hHM.out, hHP, HW⟩
            case measure => simp [intOf]; omega
      · rw [if_neg hd] at hP
        have hne : ¬ (k : Int) = (t.size : Int) := by omega
        by_cases hk0 : k = 0
        · subst hk0
          rw [if_pos (Or.inl rfl)] at hP
          subst hP
          by_cases hd0 : 48 ≤ t[0].toNat
          · have hd1 : ¬ (t[0].toNat : Int) ≤ 57 := by omega
            have hd0' : 48 ≤ (t[0].toNat : Int) := by omega
            clear hc hm hp10 hd
            go_wp2
            exact bodyPost_ret (v := .tuple #[.int .i64 _, .int .i64 _, .int .i64 _]) (by first | (simp [results, Tryz.results128, go_sem]; done) | (simp [results, Tryz.results128, go_sem]; exact ⟨rfl, rfl, rfl⟩)) rfl ⟨rfl, HW.out⟩
          · have hd0' : ¬ 48 ≤ (t[0].toNat : Int) := by omega
            clear hc hm hp10 hd
            go_wp2
            exact bodyPost_ret (v := .tuple #[.int .i64 _, .int .i64 _, .int .i64 _]) (by first | (simp [results, Tryz.results128, go_sem]; done) | (simp [results, Tryz.results128, go_sem]; exact ⟨rfl, rfl, rfl⟩)) rfl ⟨rfl, HW.out⟩
        · have hk0' : ¬ (k : Int) = 0 := by omega
          by_cases h58 : t[k].toNat = 58
          · rw [if_neg (by omega)] at hP
            subst hP
            have h58' : (t[k].toNat : Int) = 58 := by omega
            have e58 : t[k] = 58 := UInt8.toNat_inj.1 h58
            clear hc hm hp10 hd
            go_wp2
            exact bodyPost_ret (v := .tuple #[.int .i64 _, .int .i64 _, .int .i64 _]) (by first | (simp [results, Tryz.results128, go_sem]; done) | (simp [results, Tryz.results128, go_sem]; exact ⟨rfl, rfl, rfl⟩)) rfl ⟨rfl, HW.out⟩
          · rw [if_pos (Or.inr h58)] at hP
            subst hP
            have h58' : ((t[k].toNat : Int) != 58) = true := by rw [bne_iff_ne]; omega
            by_cases hd0 : 48 ≤ t[k].toNat
            · have hd1 : ¬ (t[k].toNat : Int) ≤ 57 := by omega
              have hd0' : 48 ≤ (t[k].toNat : Int) := by omega
              clear hc hm hp10 hd
              go_wp2
              exact bodyPost_ret (v := .tuple #[.int .i64 _, .int .i64 _, .int .i64 _]) (by first | (simp [results, Tryz.results128, go_sem]; done) | (simp [results, Tryz.results128, go_sem]; exact ⟨rfl, rfl, rfl⟩)) rfl ⟨rfl, HW.out⟩
            · have hd0' : ¬ 48 ≤ (t[k].toNat : Int) := by omega
              clear hc hm hp10 hd
              go_wp2
              exact bodyPost_ret (v := .tuple #[.int .i64 _, .int .i64 _, .int .i64 _]) (by first | (simp [results, Tryz.results128, go_sem]; done) | (simp [results, Tryz.results128, go_sem]; exact ⟨rfl, rfl, rfl⟩)) rfl ⟨rfl, HW.out⟩
    · have hc := get_end t k (by omega)
      have hP := HP.out
      rw [hc] at hP
      unfold lenP at hP
      subst hP
      have hl' : ¬ (k : Int) < (t.size : Int) := by omega
      have hl2 : (k : Int) = (t.size : Int) := by omega
      go_wp2
      exact bodyPost_ret (v := .tuple #[.int .i64 _, .int .i64 _, .int .i64 _]) (by first | (simp [results, Tryz.results128, go_sem]; done) | (simp [results, Tryz.results128, go_sem]; exact ⟨rfl, rfl, rfl⟩)) rfl ⟨rfl, HW.out⟩
theorem lenP_le (l : List UInt8) (n k : Nat) (hk : k ≤ 7) (hn : n < 10 ^ k) (h0 : (lenP n k l).2.2 = 0) : (lenP n k l).1 ≤ 9999999 ∧ (lenP n k l).2.1 ≤ k + l.length ∧ k < (lenP n k l).2.1 ∧ (lenP n k l).2.1 ≤ 8 := by
  induction l generalizing n k with
  | nil => simp [lenP] at h0
  | cons c l ih =>
    unfold lenP at h0 ⊢
    by_cases hd : 48 ≤ c.toNat ∧ c.toNat ≤ 57
    · rw [if_pos hd] at h0 ⊢
      by_cases hz : (0 < k ∧ n = 0) ∨ k = 7
      · rw [if_pos hz] at h0; simp at h0
      · rw [if_neg hz] at h0 ⊢
        have := ih (n * 10 + (c.toNat - 48)) (k + 1) (by omega) (by rw [Nat.pow_succ]; omega) h0
        simp only [List.length_cons]
        omega
    · rw [if_neg hd] at h0 ⊢
      by_cases hz : k = 0 ∨ c.toNat ≠ 58
      · rw [if_pos hz] at h0; simp at h0
      · rw [if_neg hz]
        simp only [List.length_cons]
        have := pow10_le k hk
        refine ⟨?_, by omega, by omega, by omega⟩
        show n ≤ 9999999
        omega
theorem lenP_err (l : List UInt8) (n k : Nat) (h0 : (lenP n k l).2.2 ≠ 0) : ((lenP n k l).1 = 0 ∧ (lenP n k l).2.1 = 0) ∧ ((lenP n k l).2.2 = 1 ∨ (lenP n k l).2.2 = 2) := by
  induction l generalizing n k with
  | nil => simp [lenP]
  | cons c l ih =>
    unfold lenP at h0 ⊢
    by_cases hd : 48 ≤ c.toNat ∧ c.toNat ≤ 57
    · rw [if_pos hd] at h0 ⊢
      by_cases hz : (0 < k ∧ n = 0) ∨ k = 7
      · rw [if_pos hz]; simp
      · rw [if_neg hz] at h0 ⊢
        exact ih _ _ h0
    · rw [if_neg hd] at h0 ⊢
      by_cases hz : k = 0 ∨ c.toNat ≠ 58
      · rw [if_pos hz]; simp
      · rw [if_neg hz] at h0; simp at h0
def cutP (t : ByteArray) : ByteArray × Nat × Nat :=
  let r := lenP 0 0 t.data.toList
  if r.2.2 = 0 then (if t.size - r.2.1 ≤ r.1 then (⟨#[]⟩, 0, 2) else (t.extract r.2.1 (r.2.1 + r.1), r.2.1 + r.1 + 1, 0)) else (⟨#[]⟩, 0, r.2.2)
set_option maxRecDepth 100000 in
set_option maxHeartbeats 4000000 in
theorem cut_p (t : ByteArray) (hs : t.size ≤ 9223372036854775807) (w : World) :
    Calls Tryz.prog 116 #[.string t] w fun e w' => e = .returned (.tuple #[.string (cutP t).1, .int .i64 (cutP t).2.1, .int .i64 (cutP t).2.2]) ∧ w = w' := by
  have HL := length_p t hs
  unfold cutP
  have hle := lenP_le t.data.toList 0 0 (by omega) (by decide)
  have her := lenP_err t.data.toList 0 0
  generalize lenP 0 0 t.data.toList = r at *
  obtain ⟨n, k, e⟩ := r
  simp only at *
  rw [show t.data.toList.length = t.size from rfl] at hle
  by_cases h0 : e = 0
  · subst h0
    obtain ⟨h1, h2, h3, h4⟩ := hle rfl
    have HL' := Lib.hid HL
    clear hle her HL
    rw [if_pos rfl]
    have hk : (k : Int) ≤ t.size := by omega
    by_cases hm : t.size - k ≤ n
    · rw [if_pos hm]
      have hm' : (t.size : Int) - k ≤ n := by omega
      clear hm
      go_enter Tryz.func116, Tryz.ntmps116
      go_wp2_with fail
      refine (HL'.out _).mono ?_
      rintro _ w' ⟨rfl, rfl⟩
      go_wp2_with fail
      exact bodyPost_ret (v := .tuple #[.string _, .int .i64 _, .int .i64 _]) (by first | (simp [results, Tryz.results116, go_sem]; done) | (simp [results, Tryz.results116, go_sem]; exact ⟨rfl, rfl, rfl⟩)) rfl ⟨rfl, rfl⟩
    · rw [if_neg hm]
      have hm' : ¬ (t.size : Int) - k ≤ n := by omega
      have hm2 : (k : Int) + n ≤ t.size := by omega
      have hm3 : k + n ≤ t.size := by omega
      clear hm
      go_enter Tryz.func116, Tryz.ntmps116
      go_wp2_with fail
      refine (HL'.out _).mono ?_
      rintro _ w' ⟨rfl, rfl⟩
      go_wp2_with fail
      exact bodyPost_ret (v := .tuple #[.string _, .int .i64 _, .int .i64 _]) (by first | (simp [results, Tryz.results116, go_sem]; done) | (simp [results, Tryz.results116, go_sem]; exact ⟨rfl, rfl, rfl⟩)) rfl ⟨rfl, rfl⟩
  · rw [if_neg h0]
    obtain ⟨⟨rfl, rfl⟩, he⟩ := her h0
    have HL' := Lib.hid HL
    have h0' : ((e : Int) != 0) = true := by rw [bne_iff_ne]; omega
    clear hle her HL he h0
    go_enter Tryz.func116, Tryz.ntmps116
    go_wp2_with fail
    refine (HL'.out _).mono ?_
    rintro _ w' ⟨rfl, rfl⟩
    go_wp2_with fail
    exact bodyPost_ret (v := .tuple #[.string _, .int .i64 _, .int .i64 _]) (by first | (simp [results, Tryz.results116, go_sem]; done) | (simp [results, Tryz.results116, go_sem]; exact ⟨rfl, rfl, rfl⟩)) rfl ⟨rfl, rfl⟩
def pureB (k n : Int) (s : ByteArray) (len : Nat) : Bool :=
  if k = 1 then s.toList.isEmpty && decide (len = 0) else if k = 2 then decide (n = 0) && decide (len = 0) else if k = 3 then decide (n = 0) && s.toList.isEmpty else false
set_option maxRecDepth 100000 in
set_option maxHeartbeats 4000000 in
theorem pure_p (k n : Int) (s : ByteArray) (ad : Option Addr) (len cap : Nat) (w : World) :
    Calls Tryz.prog 123 #[.agg #[.int .i64 k, .int .i64 n, .string s, .slice ad len cap]] w fun e w' => e = .returned (.bool (pureB k n s len)) ∧ Below w.heap.size w w' := by
  unfold pureB
  by_cases h1 : k = 1
  · subst h1
    rw [if_pos rfl]
    cases hs : s.toList.isEmpty
    · go_enter Tryz.func123, Tryz.ntmps123
      go_wp2
      go_ret
      exact ⟨rfl, (Below.refl _ _).alloc (Nat.le_refl _) _⟩
    · go_enter Tryz.func123, Tryz.ntmps123
      go_wp2
      go_ret
      refine ⟨?_, (Below.refl _ _).alloc (Nat.le_refl _) _⟩
      by_cases hl : len = 0 <;> simp [hl]
  · rw [if_neg h1]
    have h1' : (k == 1) = false := by rw [beq_eq_false_iff_ne]; exact h1
    by_cases h2 : k = 2
    · subst h2
      rw [if_pos rfl]
      by_cases hn : n = 0
      · subst hn
        go_enter Tryz.func123, Tryz.ntmps123
        go_wp2
        go_ret
        refine ⟨?_, (Below.refl _ _).alloc (Nat.le_refl _) _⟩
        by_cases hl : len = 0 <;> simp [hl]
      · have hn' : (n == 0) = false := by rw [beq_eq_false_iff_ne]; exact hn
        go_enter Tryz.func123, Tryz.ntmps123
        go_wp2
        go_ret
        exact ⟨by simp [hn], (Below.refl _ _).alloc (Nat.le_refl _) _⟩
    · rw [if_neg h2]
      have h2' : (k == 2) = false := by rw [beq_eq_false_iff_ne]; exact h2
      by_cases h3 : k = 3
      · subst h3
        rw [if_pos rfl]
        by_cases hn : n = 0
        · subst hn
          go_enter Tryz.func123, Tryz.ntmps123
          go_wp2
          go_ret
          exact ⟨by simp, (Below.refl _ _).alloc (Nat.le_refl _) _⟩
        · have hn' : (n == 0) = false := by rw [beq_eq_false_iff_ne]; exact hn
          go_enter Tryz.func123, Tryz.ntmps123
          go_wp2
          go_ret
          exact ⟨by simp [hn], (Below.refl _ _).alloc (Nat.le_refl _) _⟩
      · rw [if_neg h3]
        have h3' : (k == 3) = false := by rw [beq_eq_false_iff_ne]; exact h3
        go_enter Tryz.func123, Tryz.ntmps123
        go_wp2
        go_ret
        exact ⟨rfl, (Below.refl _ _).alloc (Nat.le_refl _) _⟩
end Go.Proofs.YtaacdggjkfmehaaGreatDoor
namespace Go.Proofs.YtaacdggjkfmehaaGreatDoor
open Go.RowKit
inductive F where
  | nil
  | cons (k n : Int) (s : ByteArray) (kids rest : F)
def F.len : F → Nat
  | .nil => 0
  | .cons _ _ _ _ r => r.len + 1
def F.cnt : F → Nat
  | .nil => 0
  | .cons _ _ _ l r => 1 + l.cnt + r.cnt
def F.dep : F → Nat
  | .nil => 0
  | .cons _ _ _ l r => max (l.dep + 1) r.dep
def F.ok : F → Bool
  | .nil => true
  | .cons k n s l r => pureB k n s l.len && l.ok && r.ok
def F.All (Q : Int → Int → ByteArray → F → Prop) : F → Prop
  | .nil => True
  | .cons k n s l r => Q k n s l ∧ r.All Q
theorem F.all_of {Q : Int → Int → ByteArray → F → Prop} (h : ∀ k n s l, l.All Q → Q k n s l) : ∀ f : F, f.All Q
  | .nil => trivial
  | .cons k n s l r => ⟨h k n s l (F.all_of h l), F.all_of h r⟩
def RepF (w : World) (b : Nat) : Nat → F → Prop
  | _, .nil => True
  | off, .cons k n s l r =>
    w.cell? ⟨b, off, none⟩ = some (.int .i64 k) ∧ w.cell? ⟨b, off + 1, none⟩ = some (.int .i64 n) ∧ w.cell? ⟨b, off + 2, none⟩ = some (.string s) ∧
    (∃ ad cap, w.cell? ⟨b, off + 3, none⟩ = some (.slice ad l.len cap) ∧ (l = .nil ∨ ∃ b' o', ad = some ⟨b', o', none⟩ ∧ RepF w b' o' l)) ∧ RepF w b (off + 4) r
def RepS (w : World) (ad : Option Addr) (l : F) : Prop := l = .nil ∨ ∃ b o, ad = some ⟨b, o, none⟩ ∧ RepF w b o l
theorem cell_kept {w w' : World} {B : Nat} {a : Addr} {v : Value} (hb : Below B w w') (hB : w.heap.size ≤ B) (h : w.cell? a = some v) : w'.cell? a = some v := by
  rw [hb.cell (Nat.lt_of_lt_of_le (World.block_lt_of_cell? w _ h) hB)]; exact h
theorem RepF.kept {w w' : World} {B : Nat} (hb : Below B w w') (hB : w.heap.size ≤ B) : ∀ (f : F) (b off : Nat), RepF w b off f → RepF w' b off f
  | .nil, _, _, _ => trivial
  | .cons k n s l r, b, off, h => by
    obtain ⟨h0, h1, h2, ⟨ad, cap, h3, h4⟩, h5⟩ := h
    refine ⟨cell_kept hb hB h0, cell_kept hb hB h1, cell_kept hb hB h2, ⟨ad, cap, cell_kept hb hB h3, ?_⟩, RepF.kept hb hB r _ _ h5⟩
    rcases h4 with h4 | ⟨b', o', e, h4⟩
    · exact .inl h4
    · exact .inr ⟨b', o', e, RepF.kept hb hB l _ _ h4⟩
theorem RepS.kept {w w' : World} {B : Nat} {ad : Option Addr} {l : F} (h : RepS w ad l) (hb : Below B w w') (hB : w.heap.size ≤ B) : RepS w' ad l := by
  rcases h with h | ⟨b, o, e, h⟩
  · exact .inl h
  · exact .inr ⟨b, o, e, RepF.kept hb hB l _ _ h⟩
theorem RepS.below {w w' : World} {ad : Option Addr} {l : F} (h : RepS w ad l) (hb : Below w.heap.size w w') : RepS w' ad l := h.kept hb (Nat.le_refl _)
def vmayB (k n : Int) (s : ByteArray) (l : F) (d m : Int) : Bool := pureB k n s l.len && l.ok && decide ((l.dep : Int) + 1 ≤ d) && decide ((l.cnt : Int) + 1 ≤ m)
def valI (k n : Int) (s : ByteArray) (l : F) (d m : Int) : Int := if vmayB k n s l d m then (l.cnt : Int) + 1 else 0
def ValuesQ (k n : Int) (s : ByteArray) (l : F) : Prop := ∀ (d m : Int) (ad : Option Addr) (cap : Nat) (w : World), 0 ≤ d → d ≤ 1000000 → 0 ≤ m → m ≤ 1000000 → RepS w ad l →
  Calls Tryz.prog 112 #[.agg #[.int .i64 k, .int .i64 n, .string s, .slice ad l.len cap], .int .i64 d, .int .i64 m] w fun e w' => e = .returned (.int .i64 (valI k n s l d m)) ∧ Below w.heap.size w w'
def ValRel (w : World) (T d m : Int) (ad : Option Addr) (len : Nat) (may : Prop) (nv iv : Value) (wr : World) : Prop :=
  ∃ (i : Nat) (n : Int) (g : F), iv = .int .i64 i ∧ nv = .int .i64 n ∧ 1 ≤ n ∧ (i : Int) ≤ n ∧ n ≤ m ∧ i + g.len = len ∧ g.All ValuesQ ∧
    Hid ((may ↔ (g.ok = true ∧ (g.dep : Int) + 1 ≤ d ∧ n + g.cnt ≤ m)) ∧ n + g.cnt = T) ∧ (g = .nil ∨ ∃ b o, ad = some ⟨b, o, none⟩ ∧ RepF wr b (o + i * 4) g) ∧ Below w.heap.size w wr
set_option maxRecDepth 100000 in
set_option maxHeartbeats 4000000 in
theorem values_q (k n : Int) (s : ByteArray) (l : F) (hl : l.All ValuesQ) : ValuesQ k n s l := by
  intro d m ad cap w hd hd2 hm hm2 hr
  by_cases hd0 : d = 0
  · subst hd0
    have e : valI k n s l 0 m = 0 := by
      unfold valI vmayB
      rw [if_neg]
      simp only [Bool.and_eq_true, decide_eq_true_eq]
      omega
    rw [e]
    go_enter Tryz.func112, Tryz.ntmps112
    go_wp2_with fail
    go_ret
    exact ⟨rfl, (Below.refl _ _).alloc (Nat.le_refl _) _⟩
  have bd : (d == 0) = false := by rw [beq_eq_false_iff_ne]; exact hd0
  by_cases hm0 : m = 0
  · subst hm0
    have e : valI k n s l d 0 = 0 := by
      unfold valI vmayB
      rw [if_neg]
      simp only [Bool.and_eq_true, decide_eq_true_eq]
      omega
    rw [e]
    go_enter Tryz.func112, Tryz.ntmps112
    go_wp2_with fail
    go_ret
    exact ⟨rfl, (Below.refl _ _).alloc (Nat.le_refl _) _⟩
  have bm : (m == 0) = false := by rw [beq_eq_false_iff_ne]; exact hm0
  have P := Lib.hid (pure_p k n s ad l.len cap)
  cases hp : pureB k n s l.len with
  | false =>
    have e : valI k n s l d m = 0 := by
      unfold valI vmayB
      rw [hp]
      rfl
    rw [e]
    rw [hp] at P
    clear e
    go_enter Tryz.func112, Tryz.ntmps112
    go_wp2_with fail
    refine (P.out _).mono ?_
    rintro _ w1 ⟨rfl, hb1⟩
    go_wp2_with fail
    go_ret
    exact ⟨rfl, ((Below.refl _ _).alloc (Nat.le_refl _) _).trans (hb1.mono (by simp))⟩
  | true =>
    rw [hp] at P
    have HM : Hid (vmayB k n s l d m = true ↔ (l.ok = true ∧ (l.dep : Int) + 1 ≤ d ∧ 1 + (l.cnt : Int) ≤ m)) := Lib.hid (by
      unfold vmayB
      rw [hp]
      simp only [Bool.true_and, Bool.and_eq_true, decide_eq_true_eq]
      constructor
      · rintro ⟨⟨a, b⟩, c⟩; exact ⟨a, b, by omega⟩
      · rintro ⟨a, b, c⟩; exact ⟨⟨a, b⟩, by omega⟩)
    have HV : Hid ((vmayB k n s l d m = true → valI k n s l d m = 1 + (l.cnt : Int)) ∧ (¬ vmayB k n s l d m = true → valI k n s l d m = 0)) := Lib.hid (by
      unfold valI
      exact ⟨fun h => by rw [if_pos h]; omega, fun h => by rw [if_neg h]⟩)
    generalize valI k n s l d m = R at *
    have HR := Lib.hid hr
    have HL := Lib.hid hl
    clear hr hl hp
    go_enter Tryz.func112, Tryz.ntmps112
    go_wp2_with fail
    refine (P.out _).mono ?_
    rintro _ w1 ⟨rfl, hb1⟩
    have hbw : Below w.heap.size w w1 := ((Below.refl _ _).alloc (Nat.le_refl _) _).trans (hb1.mono (by simp))
    have c3 : w1.cell? ⟨w.heap.size, 3, none⟩ = some (.slice ad l.len cap) := by rw [hb1.cell (by simp)]; go_simp
    have HBW := Lib.hid hbw
    clear hb1 hbw
    go_wp2_with fail
    go_loopw [7, 25] (fun nv iv wr => ValRel w (1 + (l.cnt : Int)) d m ad l.len (vmayB k n s l d m = true) nv iv wr) (fun _ i _ => l.len - (intOf i).toNat)
    case atStart =>
      refine ⟨0, 1, l, rfl, rfl, by omega, by omega, by omega, by omega, HL.out, Lib.hid ⟨HM.out, rfl⟩, ?_, HBW.out⟩
      rcases HR.out with h | ⟨b, o, e, h⟩
      · exact .inl h
      · refine .inr ⟨b, o, e, ?_⟩
        simpa using RepF.kept HBW.out (Nat.le_refl _) l _ _ h
    case round =>
      obtain ⟨i, nn, g, rfl, rfl, h1, hin, hnm, hil, hQ, hH, hG, hB⟩ := hrel
      cases g with
      | nil =>
        have hlt : ¬ (i : Int) < (l.len : Int) := by simp only [F.len] at hil; omega
        obtain ⟨hM, hT⟩ := hH.out
        have hR : R = nn := by
          rw [HV.out.1 (hM.2 ⟨rfl, by simp only [F.dep]; omega, by simp only [F.cnt]; omega⟩)]
          simp only [F.cnt] at hT
          omega
        subst hR
        clear hM hT hH hG hQ
        go_wp2_with fail
        go_ret
        exact ⟨rfl, hB⟩
      | cons k' n' s' l' r' =>
        have hlt : (i : Int) < (l.len : Int) := by simp only [F.len] at hil; omega
        have hlt' : i < l.len := by omega
        obtain ⟨b, o, rfl, g0, g1, g2, ⟨ad', cap', g3, g4⟩, g5⟩ := hG.resolve_left (by simp)
        obtain ⟨hq, hQr⟩ := hQ
        have HQ := Lib.hid hQr
        have HG5 := Lib.hid g5
        have HG4 := Lib.hid (show RepS wr ad' l' from g4)
        have HB := Lib.hid hB
        have HQQ := Lib.hid hq
        have hsz : w.heap.size ≤ wr.heap.size := hB.size
        have HLEN := Lib.hid (show i + 1 + r'.len = l.len by simp only [F.len] at hil; omega)
        have hmn : 0 ≤ m - nn := by omega
        obtain ⟨ra, hra⟩ : ∃ ra, valI k' n' s' l' (d - 1) (m - nn) = ra := ⟨_, rfl⟩
        have hdd : 0 ≤ d - 1 := by omega
        have hda : Hid (¬ ra = 0 → ra = 1 + (l'.cnt : Int) ∧ ((vmayB k n s l d m = true ↔ (r'.ok = true ∧ (r'.dep : Int) + 1 ≤ d ∧ nn + ra + r'.cnt ≤ m)) ∧ nn + ra + r'.cnt = 1 + (l.cnt : Int)) ∧ 1 ≤ ra ∧ nn + ra ≤ m) := Lib.hid (by
          intro h0
          obtain ⟨hM, hT⟩ := hH.out
          have hmb : vmayB k' n' s' l' (d - 1) (m - nn) = true := by
            by_cases hh : vmayB k' n' s' l' (d - 1) (m - nn) = true
            · exact hh
            · exfalso; apply h0; rw [← hra]; unfold valI; rw [if_neg hh]
          have hr1 : ra = 1 + (l'.cnt : Int) := by rw [← hra]; unfold valI; rw [if_pos hmb]; omega
          unfold vmayB at hmb
          simp only [Bool.and_eq_true, decide_eq_true_eq] at hmb
          obtain ⟨⟨⟨q1, q2⟩, q3⟩, q4⟩ := hmb
          refine ⟨hr1, ⟨?_, ?_⟩, by omega, by omega⟩
          · rw [hM]
            simp only [F.ok, F.dep, F.cnt, Bool.and_eq_true]
            constructor
            · rintro ⟨⟨⟨_, _⟩, c⟩, e1, e2⟩; exact ⟨c, by omega, by omega⟩
            · rintro ⟨c, e1, e2⟩; exact ⟨⟨⟨q1, q2⟩, c⟩, by omega, by omega⟩
          · simp only [F.cnt] at hT
            omega)
        have hdb : Hid (ra = 0 → R = 0) := Lib.hid (by
          intro h0
          obtain ⟨hM, hT⟩ := hH.out
          apply HV.out.2
          intro hh
          obtain ⟨q1, q2, q3⟩ := hM.1 hh
          simp only [F.ok, F.dep, F.cnt, Bool.and_eq_true] at q1 q2 q3
          have : vmayB k' n' s' l' (d - 1) (m - nn) = true := by
            unfold vmayB
            simp only [Bool.and_eq_true, decide_eq_true_eq]
            exact ⟨⟨⟨q1.1.1, q1.1.2⟩, by omega⟩, by omega⟩
          rw [← hra] at h0
          unfold valI at h0
          rw [if_pos this] at h0
          omega)
        clear hH g5 g4 hQr hq hB hil
        have q0 : wr.cell? ⟨b, o + i * 4 + 0, none⟩ = some (.int .i64 k') := g0
        have hb3 : Below w.heap.size w (wr.alloc (.cells #[.int .i64 k', .int .i64 n', .string s', .slice ad' l'.len cap'] 121)) := HB.out.alloc hsz _
        have HB3 := Lib.hid hb3
        clear hb3
        by_cases h0 : ra = 0
        · obtain rfl := hdb.out h0
          subst h0
          go_wp2_with fail
          refine (HQQ.out (d - 1) (m - nn) ad' cap' _ (by omega) (by omega) (by omega) (by omega) ?_).mono ?_
          · exact HG4.out.below ((Below.refl _ _).alloc (Nat.le_refl _) _)
          rw [hra]
          rintro _ w2 ⟨rfl, hb2⟩
          go_wp2_with fail
          go_ret
          exact ⟨rfl, HB3.out.trans (hb2.mono HB3.out.size)⟩
        · have b0 : (ra == 0) = false := by rw [beq_eq_false_iff_ne]; exact h0
          have HDA := Lib.hid (hda.out h0)
          obtain ⟨hra1, hra2⟩ := (hda.out h0).2.2
          clear hda
          go_wp2_with fail
          refine (HQQ.out (d - 1) (m - nn) ad' cap' _ (by omega) (by omega) (by omega) (by omega) ?_).mono ?_
          · exact HG4.out.below ((Below.refl _ _).alloc (Nat.le_refl _) _)
          rw [hra]
          rintro _ w2 ⟨rfl, hb2⟩
          have HB2 := Lib.hid hb2
          clear hb2
          go_wp2_with fail
          go_roundw
          case rel =>
            obtain ⟨_, hM, _, _⟩ := HDA.out
            refine ⟨i + 1, nn + ra, r', by go_num, rfl, by omega, by omega, by omega, HLEN.out, HQ.out, Lib.hid hM, ?_, HB3.out.trans (HB2.out.mono HB3.out.size)⟩
            refine .inr ⟨b, o, rfl, ?_⟩
            have := (RepF.kept ((Below.refl _ _).alloc (Nat.le_refl _) _) (Nat.le_refl _) r' _ _ HG5.out).kept HB2.out (Nat.le_refl _)
            rw [show o + (i + 1) * 4 = o + i * 4 + 4 by omega]
            exact this
          case measure => simp [intOf]; omega
theorem values_all (f : F) : f.All ValuesQ := F.all_of values_q f
theorem values_p (k n : Int) (s : ByteArray) (l : F) : ValuesQ k n s l := values_q k n s l (values_all l)
def vmay (k n : Int) (s : ByteArray) (l : F) : Bool := vmayB k n s l 6 6000
theorem vmay_p (k n : Int) (s : ByteArray) (l : F) (ad : Option Addr) (cap : Nat) (w : World) (hr : RepS w ad l) :
    Calls Tryz.prog 102 #[.agg #[.int .i64 k, .int .i64 n, .string s, .slice ad l.len cap]] w fun e w' => e = .returned (.bool (vmay k n s l)) ∧ Below w.heap.size w w' := by
  have hb0 : Below w.heap.size w (w.alloc (.cells #[.int .i64 k, .int .i64 n, .string s, .slice ad l.len cap] 121)) := (Below.refl _ _).alloc (Nat.le_refl _) _
  have H := Lib.hid (values_p k n s l 6 6000 ad cap _ (by omega) (by omega) (by omega) (by omega) (hr.below hb0))
  have HV : Hid ((0 < valI k n s l 6 6000) ↔ vmay k n s l = true) := Lib.hid (by
    unfold valI vmay
    by_cases h : vmayB k n s l 6 6000 = true
    · rw [if_pos h]; simp only [h, iff_true]; omega
    · rw [if_neg h]; simp [h])
  generalize valI k n s l 6 6000 = v at *
  have HB0 := Lib.hid hb0
  clear hb0 hr
  cases hm : vmay k n s l with
  | true =>
    have h0 : 0 < v := HV.out.2 hm
    clear hm
    go_enter Tryz.func102, Tryz.ntmps102
    go_wp2_with fail
    refine H.out.mono ?_
    rintro _ w1 ⟨rfl, hb1⟩
    go_wp2_with fail
    go_ret
    exact ⟨rfl, HB0.out.trans (hb1.mono HB0.out.size)⟩
  | false =>
    have h0 : ¬ 0 < v := fun h => by rw [HV.out.1 h] at hm; cases hm
    clear hm
    go_enter Tryz.func102, Tryz.ntmps102
    go_wp2_with fail
    refine H.out.mono ?_
    rintro _ w1 ⟨rfl, hb1⟩
    go_wp2_with fail
    go_ret
    exact ⟨congrArg (fun b => Ending.returned (.bool b)) (decide_eq_false (by omega)), HB0.out.trans (hb1.mono HB0.out.size)⟩
end Go.Proofs.YtaacdggjkfmehaaGreatDoor
namespace Go.Proofs.YtaacdggjkfmehaaGreatDoor
open Go.RowKit
def decS (n : Int) : ByteArray := ⟨(Lib.itoa n).toArray⟩
theorem decS_size (n : Int) (h0 : -9223372036854775808 ≤ n) (h1 : n ≤ 9223372036854775807) : (decS n).size ≤ 21 := by
  have h := Lib.itoa_length_le n h0 h1
  show (Lib.itoa n).toArray.size ≤ 21
  rw [List.size_toArray]
  exact h
def frameS (t e : ByteArray) : ByteArray := if t.size ≤ 9999999 then ((decS t.size ++ ⟨#[58]⟩) ++ t) ++ e else ⟨#[]⟩
theorem itoa_p (n : Int) (h0 : -9223372036854775808 ≤ n) (h1 : n ≤ 9223372036854775807) (w : World) (h : PowAt w) :
    Calls Tryz.prog 124 #[.int .i64 n] w fun e w' => e = .returned (.string (decS n)) ∧ Below w.heap.size w w' :=
  (Tryz.strconv_Itoa n h0 h1 w h).mono fun _ _ ⟨he, k, os, hw⟩ => ⟨he, by rw [hw]; exact Lib.below_grow _ w (Nat.le_refl _) k os⟩
theorem fmtint_p (n : Int) (h0 : -9223372036854775808 ≤ n) (h1 : n ≤ 9223372036854775807) (w : World) (h : PowAt w) :
    Calls Tryz.prog 114 #[.int .i64 n, .int .i64 10] w fun e w' => e = .returned (.string (decS n)) ∧ Below w.heap.size w w' :=
  (Tryz.strconv_FormatInt_10 n h0 h1 w h).mono fun _ _ ⟨he, k, os, hw⟩ => ⟨he, by rw [hw]; exact Lib.below_grow _ w (Nat.le_refl _) k os⟩
set_option maxRecDepth 100000 in
set_option maxHeartbeats 4000000 in
theorem frame_p (t e : ByteArray) (he : e.size = 1) (w : World) (h : PowAt w) :
    Calls Tryz.prog 113 #[.string t, .string e] w fun e' w' => e' = .returned (.string (frameS t e)) ∧ Below w.heap.size w w' := by
  unfold frameS
  by_cases hs : t.size ≤ 9999999
  · rw [if_pos hs]
    have I := Lib.hid (itoa_p (t.size : Int) (by omega) (by omega) w h)
    have hd : (decS (t.size : Int)).size ≤ 21 := decS_size _ (by omega) (by omega)
    generalize decS (t.size : Int) = D at *
    have hs' : ¬ 9999999 < (t.size : Int) := by omega
    have z1 : ¬ 9223372036854775807 < D.size + 1 := by omega
    clear h
    go_enter Tryz.func113, Tryz.ntmps113
    go_wp2_with fail
    refine I.out.mono ?_
    rintro _ w1 ⟨rfl, hb1⟩
    go_wp2_with fail
    go_ret
    exact ⟨rfl, hb1⟩
  · rw [if_neg hs]
    have hs' : 9999999 < (t.size : Int) := by omega
    clear h
    go_enter Tryz.func113, Tryz.ntmps113
    go_wp2_with fail
    go_ret
    exact ⟨rfl, Below.refl _ _⟩
def putF : F → ByteArray → Option ByteArray
  | .nil, acc => some acc
  | .cons k n s l r, acc =>
    let v := if k = 1 then frameS (decS n) ⟨#[35]⟩ else if k = 2 then frameS s ⟨#[44]⟩ else (match putF l ⟨#[]⟩ with | none => ⟨#[]⟩ | some t => frameS t ⟨#[93]⟩)
    if v.size = 0 ∨ 9999999 < acc.size + v.size then none else putF r (acc ++ v)
def putV (k n : Int) (s : ByteArray) (l : F) : ByteArray :=
  if k = 1 then frameS (decS n) ⟨#[35]⟩ else if k = 2 then frameS s ⟨#[44]⟩ else (match putF l ⟨#[]⟩ with | none => ⟨#[]⟩ | some t => frameS t ⟨#[93]⟩)
theorem putF_cons (k n : Int) (s : ByteArray) (l r : F) (acc : ByteArray) : putF (.cons k n s l r) acc = if (putV k n s l).size = 0 ∨ 9999999 < acc.size + (putV k n s l).size then none else putF r (acc ++ putV k n s l) := rfl
def F.wf : F → Prop
  | .nil => True
  | .cons _ n _ l r => (-9223372036854775808 ≤ n ∧ n ≤ 9223372036854775807) ∧ l.wf ∧ r.wf
theorem owns_shape {w : World} {base : Nat} {e : TypeId} {v : Value} {n : Nat} {xs : List Value} (h : w.ownsRow base e 1 v n xs) : ∃ ad cap, v = .slice ad n cap := by
  rcases h.2 with ⟨rfl, rfl⟩ | ⟨g, cap, cur, rfl, _⟩
  · exact ⟨_, _, rfl⟩
  · exact ⟨_, _, rfl⟩
theorem empty_of_size {t : ByteArray} (h : t.size = 0) : t = ⟨#[]⟩ := by
  apply ByteArray.ext
  exact Array.eq_empty_of_size_eq_zero h
theorem conv_owned {w : World} {base : Nat} {v : Value} {T : ByteArray} (h : w.ownsRow base 5 1 v T.size (Lib.strCells T)) :
    (convert 85 9 v).run Tryz.prog w = .ok (.string T) w := by
  have hc := fun {g : Nat} (hv : v.ownBlock = some g) => h.cells (g := g) hv
  rcases h.2 with ⟨rfl, h0⟩ | ⟨g, cap, cur, rfl, _⟩
  · rw [empty_of_size h0]
    exact run_convert_bytes_nil w 85 5 Tryz.underlying85 Tryz.underlying5 0 0 9 Tryz.underlying9
  · have h1 := run_convert_bytes_back (P := Tryz.prog) w 85 9 5 ⟨g, 0, none⟩ cap T.data.toList Tryz.underlying85 Tryz.underlying5 Tryz.underlying9 (fun j hj => hc rfl j _ (by
      unfold Lib.strCells
      rw [List.getElem?_map, List.getElem?_eq_getElem hj]
      rfl))
    rw [show T.data.toList.length = T.size from rfl] at h1
    exact h1
theorem owns_below {w w' : World} {B : Nat} {e : TypeId} {s n : Nat} {v : Value} {xs : List Value} (h : w.ownsRow B e s v n xs) (hb : Below w.heap.size w w') : w'.ownsRow B e s v n xs := by
  obtain ⟨hl, h0 | ⟨g, cap, cur, hv, hB, hh, r⟩⟩ := h
  · exact ⟨hl, .inl h0⟩
  · have hg : g < w.heap.size := by
      rcases Nat.lt_or_ge g w.heap.size with h1 | h1
      · exact h1
      · rw [Array.getElem?_eq_none h1] at hh
        cases hh
    exact ⟨hl, .inr ⟨g, cap, cur, hv, hB, by rw [hb.block g hg]; exact hh, r⟩⟩
theorem owns_base {w : World} {B : Nat} {e : TypeId} {s n : Nat} {v : Value} {xs : List Value} (h : w.ownsRow B e s v n xs) : ∀ j, v.ownBlock = some j → B ≤ j := by
  intro j hj
  rcases h.2 with ⟨rfl, _⟩ | ⟨g, cap, cur, rfl, hB, _⟩
  · cases hj
  · cases hj; exact hB
theorem isEmpty_ne {V : ByteArray} (h : ¬ V.size = 0) : V.toList.isEmpty = false := by
  rw [ByteArray.toList_eq, List.isEmpty_eq_false_iff]
  intro e
  apply h
  show V.data.size = 0
  rw [← Array.length_toList, e]
  rfl
theorem frameS_size (t e : ByteArray) : (frameS t e).size ≤ 10000021 + e.size := by
  unfold frameS
  by_cases h : t.size ≤ 9999999
  · rw [if_pos h]
    have hd := decS_size (t.size : Int) (by omega) (by omega)
    simp only [ByteArray.size_append]
    have : (⟨#[58]⟩ : ByteArray).size = 1 := rfl
    omega
  · rw [if_neg h]
    exact Nat.zero_le _
theorem putV_size (k n : Int) (s : ByteArray) (l : F) : (putV k n s l).size ≤ 10000022 := by
  unfold putV
  split
  · exact frameS_size _ _
  · split
    · exact frameS_size _ _
    · split
      · exact Nat.zero_le _
      · exact frameS_size _ _
theorem strCells_append (a b : ByteArray) : Lib.strCells (a ++ b) = Lib.strCells a ++ Lib.strCells b := by
  unfold Lib.strCells
  rw [ByteArray.data_append, Array.toList_append, List.map_append]
def PutQ (k n : Int) (s : ByteArray) (l : F) : Prop := ∀ (ad : Option Addr) (cap : Nat) (w : World), PowAt w → (-9223372036854775808 ≤ n ∧ n ≤ 9223372036854775807) → l.wf → RepS w ad l →
  Calls Tryz.prog 103 #[.agg #[.int .i64 k, .int .i64 n, .string s, .slice ad l.len cap]] w fun e w' => e = .returned (.string (putV k n s l)) ∧ Below w.heap.size w w'
theorem infoU8 : (Tryz.prog.info? 5).map (fun i => (i.zero, i.size, i.bytes)) = some (some (.int .u8 0), 1, 1) := by kernel_rfl
def PutRel (w : World) (l : F) (ad : Option Addr) (tv iv : Value) (wr : World) : Prop :=
  ∃ (i : Nat) (T : ByteArray) (g : F), iv = .int .i64 i ∧ (∃ a c, tv = .slice a T.size c) ∧ wr.ownsRow w.heap.size 5 1 tv T.size (Lib.strCells T) ∧ T.size ≤ 9999999 ∧ i ≤ T.size ∧ i + g.len = l.len ∧
    Hid (g.All PutQ ∧ g.wf ∧ putF l ⟨#[]⟩ = putF g T) ∧ Hid (g = .nil ∨ ∃ b o, ad = some ⟨b, o, none⟩ ∧ RepF w b (o + i * 4) g) ∧ Below w.heap.size w wr
set_option maxRecDepth 100000 in
set_option maxHeartbeats 4000000 in
theorem put_q (k n : Int) (s : ByteArray) (l : F) (hl : l.All PutQ) : PutQ k n s l := by
  intro ad cap w hpow hn hwf hr
  unfold putV
  by_cases h1 : k = 1
  · subst h1
    rw [if_pos rfl]
    have I := Lib.hid (fun w hw => fmtint_p n hn.1 hn.2 w hw)
    have Fr := Lib.hid (frame_p (decS n) ⟨#[35]⟩ rfl)
    have HP := Lib.hid hpow
    clear hpow hl hr hwf
    have hb0 : Below w.heap.size w (w.alloc (.cells #[.int .i64 1, .int .i64 n, .string s, .slice ad l.len cap] 121)) := (Below.refl _ _).alloc (Nat.le_refl _) _
    have HB0 := Lib.hid hb0
    clear hb0
    generalize decS n = D at *
    go_enter Tryz.func103, Tryz.ntmps103
    go_wp2_with fail
    refine (I.out _ (HP.out.below HB0.out)).mono ?_
    rintro _ w1 ⟨rfl, hb1⟩
    have HB1 := Lib.hid (HB0.out.trans (hb1.mono HB0.out.size))
    clear hb1
    go_wp2_with fail
    refine (Fr.out _ (HP.out.below HB1.out)).mono ?_
    rintro _ w2 ⟨rfl, hb2⟩
    go_wp2_with fail
    go_ret
    exact ⟨rfl, HB1.out.trans (hb2.mono HB1.out.size)⟩
  rw [if_neg h1]
  have b1 : (k == 1) = false := by rw [beq_eq_false_iff_ne]; exact h1
  by_cases h2 : k = 2
  · subst h2
    rw [if_pos rfl]
    have Fr := Lib.hid (frame_p s ⟨#[44]⟩ rfl)
    have HP := Lib.hid hpow
    clear hpow hl hr hwf
    have hb0 : Below w.heap.size w (w.alloc (.cells #[.int .i64 2, .int .i64 n, .string s, .slice ad l.len cap] 121)) := (Below.refl _ _).alloc (Nat.le_refl _) _
    have HB0 := Lib.hid hb0
    clear hb0
    go_enter Tryz.func103, Tryz.ntmps103
    go_wp2_with fail
    refine (Fr.out _ (HP.out.below HB0.out)).mono ?_
    rintro _ w2 ⟨rfl, hb2⟩
    go_wp2_with fail
    go_ret
    exact ⟨rfl, HB0.out.trans (hb2.mono HB0.out.size)⟩
  rw [if_neg h2]
  have b2 : (k == 2) = false := by rw [beq_eq_false_iff_ne]; exact h2
  obtain ⟨R, hR⟩ : ∃ R, (match putF l ⟨#[]⟩ with | none => (⟨#[]⟩ : ByteArray) | some t => frameS t ⟨#[93]⟩) = R := ⟨_, rfl⟩
  rw [hR]
  have HR := Lib.hid hR
  have HP := Lib.hid hpow
  have HL := Lib.hid (And.intro hl hwf)
  have HS := Lib.hid hr
  clear hpow hl hr hwf hR h1 h2 hn
  obtain ⟨i0, hi, hz0, hz1, hz2⟩ := info_parts infoU8
  go_enter Tryz.func103, Tryz.ntmps103
  go_wp2_with fail
  go_loopw [3, 24] (fun tv iv wr => PutRel w l ad tv iv wr) (fun _ i _ => l.len - (intOf i).toNat)
  case atStart =>
    refine ⟨0, ⟨#[]⟩, l, rfl, ⟨_, _, rfl⟩, ⟨rfl, .inr ⟨w.heap.size + 1, 0, #[], rfl, by omega, ?_, by exact Nat.le_refl 0, by unfold maxLen; omega, rfl, rfl⟩⟩, by decide, by decide, by omega, Lib.hid ⟨HL.out.1, HL.out.2, rfl⟩, Lib.hid ?_, ?_⟩
    · have h := heap_alloc_new (w.alloc (.cells #[.int .i64 k, .int .i64 n, .string s, .slice ad l.len cap] 121)) (.cells #[] 5)
      simpa using h
    · rcases HS.out with h | ⟨b, o, e, h⟩
      · exact .inl h
      · exact .inr ⟨b, o, e, by simpa using h⟩
    · exact ((Below.refl _ _).alloc (Nat.le_refl _) _).alloc (by simp) _
  case round =>
    obtain ⟨i, T, g, rfl, ⟨ta, tc, rfl⟩, hown, hT, hiT, hil, HG, HGR, hB⟩ := hrel
    cases g with
    | nil =>
      have hlt : ¬ (i : Int) < (l.len : Int) := by simp only [F.len] at hil; omega
      have hcv := conv_owned hown
      have hRT : R = frameS T ⟨#[93]⟩ := by
        have := HG.out.2.2
        rw [show putF F.nil T = some T from rfl] at this
        rw [← HR.out, this]
      have Fr := Lib.hid (frame_p T ⟨#[93]⟩ rfl wr (HP.out.below hB))
      rw [← hRT] at Fr
      clear hRT hown HR
      go_wp2_with fail
      refine Fr.out.mono ?_
      rintro _ w2 ⟨rfl, hb2⟩
      go_wp2_with fail
      go_ret
      exact ⟨rfl, hB.trans (hb2.mono hB.size)⟩
    | cons k' n' s' l' r' =>
      have hlt : (i : Int) < (l.len : Int) := by simp only [F.len] at hil; omega
      have hlt' : i < l.len := by omega
      obtain ⟨⟨hq, hQr⟩, ⟨hwn, hwl, hwr⟩, hput⟩ := HG.out
      obtain ⟨b, o, rfl, hGw⟩ := HGR.out.resolve_left (by simp)
      obtain ⟨g0, g1, g2, ⟨ad', cap', g3, g4⟩, _⟩ := RepF.kept hB (Nat.le_refl _) _ _ _ hGw
      have g5 := hGw.2.2.2.2
      rw [putF_cons] at hput
      have q0 : wr.cell? ⟨b, o + i * 4 + 0, none⟩ = some (.int .i64 k') := g0
      have hb3 : Below w.heap.size w (wr.alloc (.cells #[.int .i64 k', .int .i64 n', .string s', .slice ad' l'.len cap'] 121)) := hB.alloc hB.size _
      have CQ := Lib.hid (hq ad' cap' (wr.alloc (.cells #[.int .i64 k', .int .i64 n', .string s', .slice ad' l'.len cap'] 121)) (HP.out.below hb3) hwn hwl ((show RepS wr ad' l' from g4).below ((Below.refl _ _).alloc (Nat.le_refl _) _)))
      have HGN := Lib.hid (And.intro hQr (And.intro hwr g5))
      have HLEN := Lib.hid (show i + 1 + r'.len = l.len by simp only [F.len] at hil; omega)
      have HB3 := Lib.hid hb3
      have hVs := putV_size k' n' s' l'
      generalize putV k' n' s' l' = V at *
      have HOWN := Lib.hid hown
      have HBS := Lib.hid hB.size
      clear hb3 hq hQr hwr g5 g4 hwn hwl hil HG HGR hown hB hGw
      by_cases hbad : V.size = 0 ∨ 9999999 < T.size + V.size
      · rw [if_pos hbad] at hput
        have hRe : R = ⟨#[]⟩ := by rw [← HR.out, hput]
        subst hRe
        clear hput
        by_cases hV0 : V.size = 0
        · obtain rfl := empty_of_size hV0
          clear hbad hV0
          go_wp2_with fail
          refine CQ.out.mono ?_
          rintro _ w2 ⟨rfl, hb2⟩
          go_wp2_with fail
          go_ret
          exact ⟨rfl, HB3.out.trans (hb2.mono HB3.out.size)⟩
        · have hV1 : (V.toList.isEmpty) = false := isEmpty_ne (by omega)
          have hV2 : 9999999 < (T.size : Int) + (V.size : Int) := by omega
          have hV3 : (V.size : Int) ≤ 10000022 := by omega
          clear hbad hV0
          go_wp2_with fail
          refine CQ.out.mono ?_
          rintro _ w2 ⟨rfl, hb2⟩
          go_wp2_with fail
          go_ret
          exact ⟨rfl, HB3.out.trans (hb2.mono HB3.out.size)⟩
      · rw [if_neg hbad] at hput
        have hV1 : (V.toList.isEmpty) = false := isEmpty_ne (by omega)
        have hV2 : ¬ 9999999 < (T.size : Int) + (V.size : Int) := by omega
        have hV3 : T.size + V.size ≤ 9999999 := by omega
        have hV4 : ¬ V.size = 0 := by omega
        have HPUT := Lib.hid hput
        clear hbad hput
        go_wp2_with fail
        refine CQ.out.mono ?_
        rintro _ w2 ⟨rfl, hb2⟩
        have hown2 : w2.ownsRow w.heap.size 5 1 (.slice ta T.size tc) T.size (Lib.strCells T) := owns_below (HOWN.out.alloc _) hb2
        have HB2 := Lib.hid hb2
        clear hb2
        have hx1 : T.size + V.size ≤ maxLen := by unfold maxLen; omega
        have hx2 : T.size + V.size ≤ 140737488355328 := by omega
        have hx3 : w.heap.size ≤ w2.heap.size := Nat.le_trans HB3.out.size HB2.out.size
        have HX := Lib.hid (And.intro hx1 (And.intro hx2 (And.intro hx3 hown2)))
        clear hx1 hx2 hx3 hown2
        go_wp2_with (at_builtin; refine Lib.wpList_append_own_string _ rfl (.tmp 40) (.tmp 41) 85 9 rfl w.heap.size 5 i0 Tryz.underlying85 Tryz.underlying9 hi hz0 hz1 hz2 _ _ _ rfl HX.out.2.2.2 V rfl HX.out.1 HX.out.2.1 HX.out.2.2.1 ?_; intro v' w3 hown3 hgrow3 _)
        go_roundw
        case rel =>
          have e1 : (T ++ V).size = T.size + V.size := ByteArray.size_append
          refine ⟨i + 1, T ++ V, r', by go_num, ?_, ?_, by omega, by omega, HLEN.out, Lib.hid ⟨HGN.out.1, HGN.out.2.1, HPUT.out⟩, Lib.hid (.inr ⟨b, o, rfl, ?_⟩), ?_⟩
          · rw [e1]; exact owns_shape hown3
          · rw [e1, strCells_append]; exact hown3
          · rw [show o + (i + 1) * 4 = o + i * 4 + 4 by omega]; exact HGN.out.2.2
          · exact (HB3.out.trans (HB2.out.mono HB3.out.size)).grown hgrow3 HX.out.2.2.1 (owns_base HOWN.out)
        case measure => simp [intOf]; omega
theorem put_all (f : F) : f.All PutQ := F.all_of put_q f
theorem put_p (k n : Int) (s : ByteArray) (l : F) : PutQ k n s l := put_q k n s l (put_all l)
def putS (k n : Int) (s : ByteArray) (l : F) : ByteArray := if vmay k n s l then putV k n s l else ⟨#[]⟩
set_option maxRecDepth 100000 in
theorem Put_p (k n : Int) (s : ByteArray) (l : F) (ad : Option Addr) (cap : Nat) (w : World) (h : PowAt w) (hn : -9223372036854775808 ≤ n ∧ n ≤ 9223372036854775807) (hw : l.wf) (hr : RepS w ad l) :
    Calls Tryz.prog 88 #[.agg #[.int .i64 k, .int .i64 n, .string s, .slice ad l.len cap]] w fun e w' => e = .returned (.string (putS k n s l)) ∧ Below w.heap.size w w' := by
  unfold putS
  have hb0 : Below w.heap.size w (w.alloc (.cells #[.int .i64 k, .int .i64 n, .string s, .slice ad l.len cap] 121)) := (Below.refl _ _).alloc (Nat.le_refl _) _
  have M := Lib.hid (vmay_p k n s l ad cap _ (hr.below hb0))
  have HB0 := Lib.hid hb0
  have HH := Lib.hid (And.intro h hr)
  have P := Lib.hid (fun w1 (hp : PowAt w1) (hr1 : RepS w1 ad l) => put_p k n s l ad cap w1 hp hn hw hr1)
  clear hb0 h hr hn hw
  cases hm : vmay k n s l with
  | false =>
    rw [hm] at M
    clear hm
    go_enter Tryz.func88, Tryz.ntmps88
    go_wp2_with fail
    refine M.out.mono ?_
    rintro _ w1 ⟨rfl, hb1⟩
    go_wp2_with fail
    go_ret
    exact ⟨rfl, HB0.out.trans (hb1.mono HB0.out.size)⟩
  | true =>
    rw [hm] at M
    clear hm
    rw [if_pos rfl]
    go_enter Tryz.func88, Tryz.ntmps88
    go_wp2_with fail
    refine M.out.mono ?_
    rintro _ w1 ⟨rfl, hb1⟩
    have HB1 := Lib.hid (HB0.out.trans (hb1.mono HB0.out.size))
    have hcell : w1.cell? ⟨w.heap.size, 0, none⟩ = some (.int .i64 k) := by rw [hb1.cell (by simp)]; go_simp
    have hcell1 : w1.cell? ⟨w.heap.size, 1, none⟩ = some (.int .i64 n) := by rw [hb1.cell (by simp)]; go_simp
    have hcell2 : w1.cell? ⟨w.heap.size, 2, none⟩ = some (.string s) := by rw [hb1.cell (by simp)]; go_simp
    have hcell3 : w1.cell? ⟨w.heap.size, 3, none⟩ = some (.slice ad l.len cap) := by rw [hb1.cell (by simp)]; go_simp
    clear hb1
    go_wp2_with fail
    refine (P.out _ (HH.out.1.below HB1.out) (HH.out.2.below HB1.out)).mono ?_
    rintro _ w2 ⟨rfl, hb2⟩
    go_wp2_with fail
    go_ret
    exact ⟨rfl, HB1.out.trans (hb2.mono HB1.out.size)⟩
end Go.Proofs.YtaacdggjkfmehaaGreatDoor
namespace Go.Proofs.YtaacdggjkfmehaaGreatDoor
open Go.RowKit
def numP (t : ByteArray) : Option Int :=
  match Lib.parseIntB 64 t.data.toList with
  | .ok v => if decS v = t then some v else none
  | _ => none
def numV (t : ByteArray) : Value := match numP t with | some v => .tuple #[.int .i64 v, .bool true] | none => .tuple #[.int .i64 0, .bool false]
theorem parse_range {l : List UInt8} {v : Int} (h : Lib.parseIntB 64 l = .ok v) : -9223372036854775808 ≤ v ∧ v ≤ 9223372036854775807 := by
  unfold Lib.parseIntB at h
  split at h
  · cases h
  · rename_i c r
    simp only at h
    split at h
    · cases h
    · cases h
    · rename_i u _
      split at h
      · cases h
      · split at h
        · cases h
        · rename_i h1 h2
          have hv := Lib.NumEnd.ok.inj h
          split at hv
          · rename_i hn
            have : ¬ 2 ^ (64 - 1) < u := fun g => h2 ⟨hn, g⟩
            omega
          · rename_i hn
            have : ¬ 2 ^ (64 - 1) ≤ u := fun g => h1 ⟨hn, g⟩
            omega
set_option maxRecDepth 100000 in
set_option maxHeartbeats 1000000 in
theorem number_p (t : ByteArray) (hs : t.size ≤ 9999999) (w : World) (h : LibAt w) :
    Calls Tryz.prog 117 #[.string t] w fun e w' => e = .returned (numV t) ∧ Below w.heap.size w w' := by
  unfold numV numP
  rcases hp : Lib.parseIntB 64 t.data.toList with v | _ | _
  · have H := Lib.hid ((Tryz.strconv_ParseInt_10_at64_ok t (by omega) v hp w).mono fun e w' (h : _ ∧ (w' = w ∨ ∃ t, w' = Lib.bytesWorld w 5 t)) => (⟨h.1, by rcases h.2 with rfl | ⟨t, rfl⟩; exact Below.refl _ _; exact Lib.bytesWorld_below _ _ _⟩ : _ ∧ Below w.heap.size w w'))
    have hr := parse_range hp
    have I := Lib.hid (fun w1 (hb : Below w.heap.size w w1) => fmtint_p v hr.1 hr.2 w1 (h.2.2.2.below hb))
    clear h hp hr
    by_cases he : decS v = t
    · have hst : (decS v).toList == t.toList := by rw [he]; exact beq_self_eq_true _
      simp only [if_pos he]
      rw [he] at I
      clear hst he
      go_enter Tryz.func117, Tryz.ntmps117
      go_wp2_with fail
      refine H.out.mono ?_
      rintro _ w1 ⟨rfl, hb1⟩
      go_wp2_with fail
      refine (I.out _ hb1).mono ?_
      rintro _ w2 ⟨rfl, hb2⟩
      go_wp2_with fail
      go_ret2
      exact ⟨rfl, hb1.trans (hb2.mono hb1.size)⟩
    · have hne := not_toList he
      simp only [if_neg he]
      generalize decS v = D at *
      clear he
      go_enter Tryz.func117, Tryz.ntmps117
      go_wp2_with fail
      refine H.out.mono ?_
      rintro _ w1 ⟨rfl, hb1⟩
      go_wp2_with fail
      refine (I.out _ hb1).mono ?_
      rintro _ w2 ⟨rfl, hb2⟩
      go_wp2_with fail
      go_ret2
      exact ⟨rfl, hb1.trans (hb2.mono hb1.size)⟩
  · obtain ⟨⟨ev, h1, h2⟩, _⟩ := h.2.1
    have H := Lib.hid (Tryz.strconv_ParseInt_10_at64_syntax t (by omega) hp ev w h1 h2)
    clear h hp h1 h2
    go_enter Tryz.func117, Tryz.ntmps117
    go_wp2_with fail
    refine H.out.mono ?_
    rintro _ w1 ⟨N, rfl, _, _, hb1⟩
    go_wp2_with fail
    go_ret2
    exact ⟨rfl, hb1⟩
  · obtain ⟨⟨ev, h1, h2⟩, _⟩ := h.2.2.1
    have H := Lib.hid (Tryz.strconv_ParseInt_10_at64_range t (by omega) hp ev w h1 h2)
    generalize Lib.intSat 64 t.data.toList = sat at H
    clear h hp h1 h2
    go_enter Tryz.func117, Tryz.ntmps117
    go_wp2_with fail
    refine H.out.mono ?_
    rintro _ w1 ⟨N, rfl, _, _, hb1⟩
    go_wp2_with fail
    go_ret2
    exact ⟨rfl, hb1⟩
theorem clone_p (s : ByteArray) (hs : s.size ≤ 9999999) (w : World) :
    Calls Tryz.prog 67 #[.string s] w fun e w' => e = .returned (.string s) ∧ Below w.heap.size w w' := by
  have H := Lib.hid (Tryz.stringslite_Clone s w (by omega))
  go_enter Tryz.func67, Tryz.ntmps67
  go_wp2_with fail
  refine H.out.mono ?_
  rintro _ w1 ⟨rfl, hb1⟩
  go_wp2_with fail
  go_ret
  exact ⟨rfl, hb1⟩
structure G where
  k : Int
  n : Int
  s : ByteArray
  l : F
  b : Nat
  c : Nat
def itemsP (g : ByteArray → Int → Except Nat G) (m : Int) : Nat → ByteArray → Nat → Option (F × Nat)
  | 0, _, _ => none
  | f + 1, t, n =>
    if t.size = 0 then some (.nil, n) else
      match g t (m - n) with
      | .error _ => none
      | .ok x => match itemsP g m f (t.extract x.b t.size) (n + x.c) with
        | none => none
        | some (r, z) => some (.cons x.k x.n x.s x.l r, z)
def getP : Nat → ByteArray → Int → Except Nat G
  | 0, t, _ => if (cutP t).2.2 = 0 then .error 1 else .error (cutP t).2.2
  | d + 1, t, m =>
    if (cutP t).2.2 = 0 then
      if m = 0 then .error 1 else
        let c := (t.extract ((cutP t).2.1 - 1) (cutP t).2.1).data.toList
        if c = [35] then (match numP (cutP t).1 with | some v => .ok ⟨1, v, ⟨#[]⟩, .nil, (cutP t).2.1, 1⟩ | none => .error 1)
        else if c = [44] then .ok ⟨2, 0, (cutP t).1, .nil, (cutP t).2.1, 1⟩
        else if c = [93] then (match itemsP (getP d) (m - 1) ((cutP t).1.size + 1) (cutP t).1 0 with | some (l, z) => .ok ⟨3, 0, ⟨#[]⟩, l, (cutP t).2.1, 1 + z⟩ | none => .error 1)
        else .error 1
    else .error (cutP t).2.2
def RepA (w : World) (A : Nat → Prop) (b : Nat) : Nat → F → Prop
  | _, .nil => True
  | off, .cons k n s l r =>
    (A b ∧ ∃ cur t, w.heap[b]? = some (.cells cur t (0, 0))) ∧ w.cell? ⟨b, off, none⟩ = some (.int .i64 k) ∧ w.cell? ⟨b, off + 1, none⟩ = some (.int .i64 n) ∧ w.cell? ⟨b, off + 2, none⟩ = some (.string s) ∧
    (∃ ad cap, w.cell? ⟨b, off + 3, none⟩ = some (.slice ad l.len cap) ∧ (l = .nil ∨ ∃ b' o', ad = some ⟨b', o', none⟩ ∧ RepA w A b' o' l)) ∧ RepA w A b (off + 4) r
def RepG (w : World) (A : Nat → Prop) (ad : Option Addr) (l : F) : Prop := l = .nil ∨ ∃ b o, ad = some ⟨b, o, none⟩ ∧ RepA w A b o l
theorem RepA.repF {w : World} {A : Nat → Prop} : ∀ (f : F) (b off : Nat), RepA w A b off f → RepF w b off f
  | .nil, _, _, _ => trivial
  | .cons k n s l r, b, off, h => by
    obtain ⟨_, h0, h1, h2, ⟨ad, cap, h3, h4⟩, h5⟩ := h
    refine ⟨h0, h1, h2, ⟨ad, cap, h3, ?_⟩, RepA.repF r _ _ h5⟩
    rcases h4 with h4 | ⟨b', o', e, h4⟩
    · exact .inl h4
    · exact .inr ⟨b', o', e, RepA.repF l _ _ h4⟩
theorem RepG.repS {w : World} {A : Nat → Prop} {ad : Option Addr} {l : F} (h : RepG w A ad l) : RepS w ad l := by
  rcases h with h | ⟨b, o, e, h⟩
  · exact .inl h
  · exact .inr ⟨b, o, e, h.repF⟩
theorem cell_congr {w w' : World} {b o : Nat} (h : w'.heap[b]? = w.heap[b]?) : w'.cell? ⟨b, o, none⟩ = w.cell? ⟨b, o, none⟩ := by
  unfold World.cell?
  simp only [h]
theorem RepA.to {w w' : World} {A A' : Nat → Prop} (hA : ∀ b, A b → b < w.heap.size → A' b ∧ w'.heap[b]? = w.heap[b]?) : ∀ (f : F) (b off : Nat), RepA w A b off f → RepA w' A' b off f
  | .nil, _, _, _ => trivial
  | .cons k n s l r, b, off, h => by
    obtain ⟨⟨ha, cur, tt, hcur⟩, h0, h1, h2, ⟨ad, cap, h3, h4⟩, h5⟩ := h
    have hb : b < w.heap.size := World.block_lt_of_cell? w _ h0
    obtain ⟨ha', he⟩ := hA b ha hb
    refine ⟨⟨ha', cur, tt, by rw [he]; exact hcur⟩, by rw [cell_congr he]; exact h0, by rw [cell_congr he]; exact h1, by rw [cell_congr he]; exact h2, ⟨ad, cap, by rw [cell_congr he]; exact h3, ?_⟩, RepA.to hA r _ _ h5⟩
    rcases h4 with h4 | ⟨b', o', e, h4⟩
    · exact .inl h4
    · exact .inr ⟨b', o', e, RepA.to hA l _ _ h4⟩
theorem RepG.to {w w' : World} {A A' : Nat → Prop} {ad : Option Addr} {l : F} (h : RepG w A ad l) (hA : ∀ b, A b → b < w.heap.size → A' b ∧ w'.heap[b]? = w.heap[b]?) : RepG w' A' ad l := by
  rcases h with h | ⟨b, o, e, h⟩
  · exact .inl h
  · exact .inr ⟨b, o, e, RepA.to hA _ _ _ h⟩
def F.app : F → F → F
  | .nil, g => g
  | .cons k n s l r, g => .cons k n s l (r.app g)
theorem F.app_len : ∀ (f g : F), (f.app g).len = f.len + g.len
  | .nil, g => by simp [F.app, F.len]
  | .cons k n s l r, g => by simp only [F.app, F.len, F.app_len r g]; omega
theorem F.app_assoc : ∀ (f g h : F), (f.app g).app h = f.app (g.app h)
  | .nil, _, _ => rfl
  | .cons k n s l r, g, h => by simp only [F.app, F.app_assoc r g h]
def RepX (w : World) (A : Nat → Prop) : List Value → F → Prop
  | xs, .nil => xs = []
  | xs, .cons k n s l r => ∃ ad cap ys, xs = .int .i64 k :: .int .i64 n :: .string s :: .slice ad l.len cap :: ys ∧ RepG w A ad l ∧ RepX w A ys r
theorem RepX.to {w w' : World} {A A' : Nat → Prop} (hA : ∀ b, A b → b < w.heap.size → A' b ∧ w'.heap[b]? = w.heap[b]?) : ∀ (f : F) (xs : List Value), RepX w A xs f → RepX w' A' xs f
  | .nil, _, h => h
  | .cons k n s l r, _, h => by
    obtain ⟨ad, cap, ys, h1, h2, h3⟩ := h
    exact ⟨ad, cap, ys, h1, h2.to hA, RepX.to hA r ys h3⟩
theorem RepX.snoc {w : World} {A : Nat → Prop} {k n : Int} {s : ByteArray} {l : F} {ad : Option Addr} {cap : Nat} (hg : RepG w A ad l) : ∀ (f : F) (xs : List Value), RepX w A xs f →
    RepX w A (xs ++ [.int .i64 k, .int .i64 n, .string s, .slice ad l.len cap]) (f.app (.cons k n s l .nil))
  | .nil, _, h => by
    obtain rfl : _ = [] := h
    exact ⟨ad, cap, [], rfl, hg, rfl⟩
  | .cons _ _ _ _ r, _, h => by
    obtain ⟨ad', cap', ys, rfl, h2, h3⟩ := h
    exact ⟨ad', cap', _, rfl, h2, RepX.snoc hg r ys h3⟩
theorem RepX.repA {w : World} {A A' : Nat → Prop} (hA : ∀ b, A b → A' b) {g : Nat} (hg : A' g ∧ ∃ cur t, w.heap[g]? = some (.cells cur t (0, 0))) : ∀ (f : F) (xs : List Value) (off : Nat), RepX w A xs f → (∀ j u, xs[j]? = some u → w.cell? ⟨g, off + j, none⟩ = some u) → RepA w A' g off f
  | .nil, _, _, _, _ => trivial
  | .cons k n s l r, _, off, h, hc => by
    obtain ⟨ad, cap, ys, rfl, h2, h3⟩ := h
    refine ⟨hg, by simpa using hc 0 _ rfl, hc 1 _ rfl, hc 2 _ rfl, ⟨ad, cap, hc 3 _ rfl, ?_⟩, RepX.repA hA hg r ys (off + 4) h3 (fun j u hj => by
      have := hc (j + 4) u (by simpa using hj)
      rw [show off + 4 + j = off + (j + 4) by omega]
      exact this)⟩
    exact h2.to (fun b hb _ => ⟨hA b hb, rfl⟩)
def GetPost (r : Except Nat G) (w : World) (e : Ending) (w' : World) : Prop :=
  Below w.heap.size w w' ∧
  match r with
  | .error x => e = .returned (.tuple #[.agg #[.int .i64 0, .int .i64 0, .string ⟨#[]⟩, .slice none 0 0, .int .i64 0, .int .i64 0], .int .i64 x])
  | .ok x => ∃ ad cap, e = .returned (.tuple #[.agg #[.int .i64 x.k, .int .i64 x.n, .string x.s, .slice ad x.l.len (x.l.len + cap), .int .i64 x.b, .int .i64 x.c], .int .i64 0]) ∧ RepG w' (fun b => w.heap.size ≤ b) ad x.l
def GetQ (d : Nat) : Prop := ∀ (t : ByteArray) (m : Int) (w : World), t.size ≤ 9223372036854775807 → 0 ≤ m → m ≤ 1000000 → LibAt w →
  Calls Tryz.prog 106 #[.string t, .int .i64 d, .int .i64 m] w (GetPost (getP d t m) w)
def ItemsPost (r : Option (F × Nat)) (w : World) (e : Ending) (w' : World) : Prop :=
  Below w.heap.size w w' ∧
  match r with
  | none => e = .returned (.tuple #[.slice none 0 0, .int .i64 0, .bool false])
  | some (l, z) => ∃ ad cap, e = .returned (.tuple #[.slice ad l.len (l.len + cap), .int .i64 z, .bool true]) ∧ RepG w' (fun b => w.heap.size ≤ b) ad l
theorem cutP_bd (t : ByteArray) (h : (cutP t).2.2 = 0) : 1 ≤ (cutP t).2.1 ∧ (cutP t).2.1 ≤ t.size ∧ (cutP t).1.size ≤ 9999999 ∧ (cutP t).1.size < t.size := by
  have hle := lenP_le t.data.toList 0 0 (by omega) (by decide)
  unfold cutP at h ⊢
  generalize lenP 0 0 t.data.toList = r at *
  obtain ⟨n, k, e⟩ := r
  simp only at *
  rw [show t.data.toList.length = t.size from rfl] at hle
  by_cases h0 : e = 0
  · rw [if_pos h0] at h ⊢
    obtain ⟨h1, h2, h3, h4⟩ := hle h0
    by_cases h5 : t.size - k ≤ n
    · rw [if_pos h5] at h
      simp at h
    · rw [if_neg h5]
      refine ⟨by simp, by simp; omega, ?_, ?_⟩
      · simp only [ByteArray.size_extract]; omega
      · simp only [ByteArray.size_extract]; omega
  · rw [if_neg h0] at h
    simp at h
    exact absurd h h0
theorem itemsP_bd (g : ByteArray → Int → Except Nat G) (hg : ∀ t m x, g t m = .ok x → 0 ≤ m → 1 ≤ x.c ∧ (x.c : Int) ≤ m ∧ (-9223372036854775808 ≤ x.n ∧ x.n ≤ 9223372036854775807) ∧ x.l.wf) (m : Int) : ∀ (f : Nat) (t : ByteArray) (n : Nat) (l : F) (z : Nat), itemsP g m f t n = some (l, z) → (n : Int) ≤ m → n ≤ z ∧ (z : Int) ≤ m ∧ l.wf
  | 0, t, n, l, z, h, hn => by cases h
  | f + 1, t, n, l, z, h, hn => by
    unfold itemsP at h
    by_cases h0 : t.size = 0
    · rw [if_pos h0] at h
      cases h
      exact ⟨Nat.le_refl _, hn, trivial⟩
    · rw [if_neg h0] at h
      cases hx : g t (m - n) with
      | error e => rw [hx] at h; cases h
      | ok x =>
        rw [hx] at h
        simp only at h
        obtain ⟨b1, b2, b3, b4⟩ := hg _ _ _ hx (by omega)
        cases hr : itemsP g m f (t.extract x.b t.size) (n + x.c) with
        | none => rw [hr] at h; cases h
        | some q =>
          obtain ⟨r, zz⟩ := q
          rw [hr] at h
          simp only at h
          cases h
          obtain ⟨c1, c2, c3⟩ := itemsP_bd g hg m f _ _ _ _ hr (by omega)
          exact ⟨by omega, c2, b3, b4, c3⟩
theorem getP_bd : ∀ (d : Nat) (t : ByteArray) (m : Int) (x : G), getP d t m = .ok x → 0 ≤ m → (1 ≤ x.c ∧ (x.c : Int) ≤ m ∧ (-9223372036854775808 ≤ x.n ∧ x.n ≤ 9223372036854775807) ∧ x.l.wf) ∧ x.b = (cutP t).2.1 ∧ (cutP t).2.2 = 0
  | 0, t, m, x, h, hm => by
    unfold getP at h
    split at h <;> cases h
  | d + 1, t, m, x, h, hm => by
    unfold getP at h
    by_cases h0 : (cutP t).2.2 = 0
    · rw [if_pos h0] at h
      by_cases hm0 : m = 0
      · rw [if_pos hm0] at h; cases h
      · rw [if_neg hm0] at h
        simp only at h
        split at h
        · split at h
          · rename_i v hv
            cases h
            refine ⟨⟨by simp, by simp; omega, ?_, trivial⟩, rfl, h0⟩
            unfold numP at hv
            split at hv
            · rename_i v' hp
              split at hv
              · cases hv; exact parse_range hp
              · cases hv
            · cases hv
          · cases h
        · split at h
          · cases h
            exact ⟨⟨by simp, by simp; omega, ⟨by simp, by simp⟩, trivial⟩, rfl, h0⟩
          · split at h
            · split at h
              · rename_i l z hi
                cases h
                obtain ⟨c1, c2, c3⟩ := itemsP_bd (getP d) (fun t m x hx hm => (getP_bd d t m x hx hm).1) (m - 1) _ _ _ _ _ hi (by omega)
                exact ⟨⟨by simp, by simp; omega, ⟨by simp, by simp⟩, c3⟩, rfl, h0⟩
              · cases h
            · cases h
    · rw [if_neg h0] at h; cases h
end Go.Proofs.YtaacdggjkfmehaaGreatDoor
