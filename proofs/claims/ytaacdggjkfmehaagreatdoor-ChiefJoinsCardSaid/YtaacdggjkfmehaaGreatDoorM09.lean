/-
  Contracts of the program, and what they rest on.
-/
import Derived.Test.YtaacdggjkfmehaaGreatDoorProg
import Derived.WalkKit
import Derived.WalkSpells
import Derived.WalkLawsBesides
import Derived.Lib.Hide
import Derived.Lib.Strings
namespace Go.Proofs.YtaacdggjkfmehaaGreatDoor
open Go.RowKit
def lenP (n k : Nat) : List UInt8 → Nat × Nat × Nat
  | [] => (0, 0, 2)
  | c :: l =>
    if 48 ≤ c.toNat ∧ c.toNat ≤ 57 then
      if (0 < k ∧ n = 0) ∨ k = 7 then (0, 0, 1) else lenP (n * 10 + (c.toNat - 48)) (k + 1) l
    else if k = 0 ∨ c.toNat ≠ 58 then (0, 0, 1) else (n, k + 1, 0)
theorem pow10_le (k : Nat) (h : k ≤ 7) : 10 ^ k ≤ 10000000 := by
  rcases k with _|_|_|_|_|_|_|_|k
  all_goals first | decide | (exfalso; omega)
theorem get_list (t : ByteArray) (k : Nat) (h : k < t.size) : t.data.toList.drop k = t[k] :: t.data.toList.drop (k + 1) :=
  List.drop_eq_getElem_cons (show k < t.data.toList.length from h)
theorem get_end (t : ByteArray) (k : Nat) (h : t.size ≤ k) : t.data.toList.drop k = [] :=
  List.drop_eq_nil_of_le (show t.data.toList.length ≤ k from h)
set_option maxRecDepth 100000 in
set_option maxHeartbeats 4000000 in
theorem length_p (t : ByteArray) (hs : t.size ≤ 9223372036854775807) (w : World) :
    Calls Tryz.prog 128 #[.string t] w fun e w' => e = .returned (.tuple #[.int .i64 (lenP 0 0 t.data.toList).1, .int .i64 (lenP 0 0 t.data.toList).2.1, .int .i64 (lenP 0 0 t.data.toList).2.2]) ∧ w = w' := by
  obtain ⟨R, hR⟩ : ∃ R, lenP 0 0 t.data.toList = R := ⟨_, rfl⟩
  rw [hR]
  have HR0 := Lib.hid hR
  clear hR
  go_enter Tryz.func128, Tryz.ntmps128
  go_wp2
  go_loopw [5, 6, 7] (fun n i x wr => ∃ k m : Nat, k ≤ 7 ∧ k ≤ t.size ∧ n = .int .i64 m ∧ i = .int .i64 k ∧ m < 10 ^ k ∧ Hid (lenP m k (t.data.toList.drop k) = R) ∧ Hid (w = wr)) (fun _ i _ _ => t.size - (intOf i).toNat)
  case atStart =>
    exact ⟨0, 0, by omega, by omega, rfl, rfl, by decide, HR0, Lib.hid rfl⟩
  case round =>
    obtain ⟨k, m, hk7, hks, rfl, rfl, hm, HP, HW⟩ := hrel
    have hp10 := pow10_le k hk7
    by_cases hlt : k < t.size
    · have hc := get_list t k hlt
      have hP := HP.out
      rw [hc] at hP
      unfold lenP at hP
      have hl' : (k : Int) < (t.size : Int) := by omega
      by_cases hd : 48 ≤ t[k].toNat ∧ t[k].toNat ≤ 57
      · obtain ⟨hd0, hd1⟩ := hd
        rw [if_pos ⟨hd0, hd1⟩] at hP
        by_cases hz : (0 < k ∧ m = 0) ∨ k = 7
        · rw [if_pos hz] at hP
          subst hP
          by_cases h7 : k = 7
          · subst h7
            by_cases hm0 : m = 0
            · subst hm0
              clear hc hz hm hp10
              go_wp2
              exact bodyPost_ret (v := .tuple #[.int .i64 _, .int .i64 _, .int .i64 _]) (by first | (simp [results, Tryz.results128, go_sem]; done) | (simp [results, Tryz.results128, go_sem]; exact ⟨rfl, rfl, rfl⟩)) rfl ⟨rfl, HW.out⟩
            · have hm0' : ¬ (m : Int) = 0 := by omega
              clear hc hz hm hp10
              go_wp2
              exact bodyPost_ret (v := .tuple #[.int .i64 _, .int .i64 _, .int .i64 _]) (by first | (simp [results, Tryz.results128, go_sem]; done) | (simp [results, Tryz.results128, go_sem]; exact ⟨rfl, rfl, rfl⟩)) rfl ⟨rfl, HW.out⟩
          · have hk0 : 0 < k := by omega
            obtain rfl : m = 0 := by omega
            clear hc hz hm hp10
            go_wp2
            exact bodyPost_ret (v := .tuple #[.int .i64 _, .int .i64 _, .int .i64 _]) (by first | (simp [results, Tryz.results128, go_sem]; done) | (simp [results, Tryz.results128, go_sem]; exact ⟨rfl, rfl, rfl⟩)) rfl ⟨rfl, HW.out⟩
        · rw [if_neg hz] at hP
          have h7 : ¬ (k : Int) = 7 := by omega
          have e1 : IntKind.u8.wrap ((t[k].toNat : Int) - 48) = (t[k].toNat : Int) - 48 := IntWalk.u8_in _ (by omega)
          have hHP := Lib.hid hP
          have hm' : m * 10 + (t[k].toNat - 48) < 10 ^ (k + 1) := by rw [Nat.pow_succ]; omega
          have hHM := Lib.hid hm'
          have hmb : (m : Int) ≤ 10000000 := by omega
          have hq : 10 * (m : Int) + ((t[k].toNat : Int) - 48) = ((m * 10 + (t[k].toNat - 48) : Nat) : Int) := by omega
          have hHQ := Lib.hid hq
          by_cases hk0 : 0 < k
          · have hm0 : ¬ (m : Int) = 0 := by omega
            have hk0' : 0 < (k : Int) := by omega
            have b0 : ((m : Int) == 0) = false := by rw [beq_eq_false_iff_ne]; omega
            have b7 : ((k : Int) == 7) = false := by rw [beq_eq_false_iff_ne]; omega
            clear hc hz hm hP hm' hq
            go_wp2
            go_roundw
            case rel => exact ⟨k + 1, _, by omega, by omega, by first | rfl | exact congrArg (Value.int .i64) hHQ.out, by go_num, hHM.out, hHP, HW⟩
            case measure => simp [intOf]; omega
          · obtain rfl : k = 0 := by omega
            clear hc hz hm hP hm' hq hk0
            go_wp2
            go_roundw
            case rel => exact ⟨0 + 1, _, by omega, by omega, by first | rfl | exact congrArg (Value.int .i64) hHQ.out, by go_num, hHM.out, hHP, HW⟩
            case measure => simp [intOf]; omega
      · rw [if_neg hd] at hP
        have hne : ¬ (k : Int) = (t.size : Int) := by omega
        by_cases hk0 : k = 0
        · subst hk0
          rw [if_pos (Or.inl rfl)] at hP
          subst hP
          by_cases hd0 : 48 ≤ t[0].toNat
          · have hd1 : ¬ (t[0].toNat : Int) ≤ 57 := by omega
            have hd0' : 48 ≤ (t[0].toNat : Int) := by omega
            clear hc hm hp10 hd
            go_wp2
            exact bodyPost_ret (v := .tuple #[.int .i64 _, .int .i64 _, .int .i64 _]) (by first | (simp [results, Tryz.results128, go_sem]; done) | (simp [results, Tryz.results128, go_sem]; exact ⟨rfl, rfl, rfl⟩)) rfl ⟨rfl, HW.out⟩
          · have hd0' : ¬ 48 ≤ (t[0].toNat : Int) := by omega
            clear hc hm hp10 hd
            go_wp2
            exact bodyPost_ret (v := .tuple #[.int .i64 _, .int .i64 _, .int .i64 _]) (by first | (simp [results, Tryz.results128, go_sem]; done) | (simp [results, Tryz.results128, go_sem]; exact ⟨rfl, rfl, rfl⟩)) rfl ⟨rfl, HW.out⟩
        · have hk0' : ¬ (k : Int) = 0 := by omega
          by_cases h58 : t[k].toNat = 58
          · rw [if_neg (by omega)] at hP
            subst hP
            have h58' : (t[k].toNat : Int) = 58 := by omega
            have e58 : t[k] = 58 := UInt8.toNat_inj.1 h58
            clear hc hm hp10 hd
            go_wp2
            exact bodyPost_ret (v := .tuple #[.int .i64 _, .int .i64 _, .int .i64 _]) (by first | (simp [results, Tryz.results128, go_sem]; done) | (simp [results, Tryz.results128, go_sem]; exact ⟨rfl, rfl, rfl⟩)) rfl ⟨rfl, HW.out⟩
          · rw [if_pos (Or.inr h58)] at hP
            subst hP
            have h58' : ((t[k].toNat : Int) != 58) = true := by rw [bne_iff_ne]; omega
            by_cases hd0 : 48 ≤ t[k].toNat
            · have hd1 : ¬ (t[k].toNat : Int) ≤ 57 := by omega
              have hd0' : 48 ≤ (t[k].toNat : Int) := by omega
              clear hc hm hp10 hd
              go_wp2
              exact bodyPost_ret (v := .tuple #[.int .i64 _, .int .i64 _, .int .i64 _]) (by first | (simp [results, Tryz.results128, go_sem]; done) | (simp [results, Tryz.results128, go_sem]; exact ⟨rfl, rfl, rfl⟩)) rfl ⟨rfl, HW.out⟩
            · have hd0' : ¬ 48 ≤ (t[k].toNat : Int) := by omega
              clear hc hm hp10 hd
              go_wp2
              exact bodyPost_ret (v := .tuple #[.int .i64 _, .int .i64 _, .int .i64 _]) (by first | (simp [results, Tryz.results128, go_sem]; done) | (simp [results, Tryz.results128, go_sem]; exact ⟨rfl, rfl, rfl⟩)) rfl ⟨rfl, HW.out⟩
    · have hc := get_end t k (by omega)
      have hP := HP.out
      rw [hc] at hP
      unfold lenP at hP
      subst hP
      have hl' : ¬ (k : Int) < (t.size : Int) := by omega
      have hl2 : (k : Int) = (t.size : Int) := by omega
      go_wp2
      exact bodyPost_ret (v := .tuple #[.int .i64 _, .int .i64 _, .int .i64 _]) (by first | (simp [results, Tryz.results128, go_sem]; done) | (simp [results, Tryz.results128, go_sem]; exact ⟨rfl, rfl, rfl⟩)) rfl ⟨rfl, HW.out⟩
theorem lenP_le (l : List UInt8) (n k : Nat) (hk : k ≤ 7) (hn : n < 10 ^ k) (h0 : (lenP n k l).2.2 = 0) : (lenP n k l).1 ≤ 9999999 ∧ (lenP n k l).2.1 ≤ k + l.length ∧ k < (lenP n k l).2.1 ∧ (lenP n k l).2.1 ≤ 8 := by
  induction l generalizing n k with
  | nil => simp [lenP] at h0
  | cons c l ih =>
    unfold lenP at h0 ⊢
    by_cases hd : 48 ≤ c.toNat ∧ c.toNat ≤ 57
    · rw [if_pos hd] at h0 ⊢
      by_cases hz : (0 < k ∧ n = 0) ∨ k = 7
      · rw [if_pos hz] at h0; simp at h0
      · rw [if_neg hz] at h0 ⊢
        have := ih (n * 10 + (c.toNat - 48)) (k + 1) (by omega) (by rw [Nat.pow_succ]; omega) h0
        simp only [List.length_cons]
        omega
    · rw [if_neg hd] at h0 ⊢
      by_cases hz : k = 0 ∨ c.toNat ≠ 58
      · rw [if_pos hz] at h0; simp at h0
      · rw [if_neg hz]
        simp only [List.length_cons]
        have := pow10_le k hk
        refine ⟨?_, by omega, by omega, by omega⟩
        show n ≤ 9999999
        omega
theorem lenP_err (l : List UInt8) (n k : Nat) (h0 : (lenP n k l).2.2 ≠ 0) : ((lenP n k l).1 = 0 ∧ (lenP n k l).2.1 = 0) ∧ ((lenP n k l).2.2 = 1 ∨ (lenP n k l).2.2 = 2) := by
  induction l generalizing n k with
  | nil => simp [lenP]
  | cons c l ih =>
    unfold lenP at h0 ⊢
    by_cases hd : 48 ≤ c.toNat ∧ c.toNat ≤ 57
    · rw [if_pos hd] at h0 ⊢
      by_cases hz : (0 < k ∧ n = 0) ∨ k = 7
      · rw [if_pos hz]; simp
      · rw [if_neg hz] at h0 ⊢
        exact ih _ _ h0
    · rw [if_neg hd] at h0 ⊢
      by_cases hz : k = 0 ∨ c.toNat ≠ 58
      · rw [if_pos hz]; simp
      · rw [if_neg hz] at h0; simp at h0
def cutP (t : ByteArray) : ByteArray × Nat × Nat :=
  let r := lenP 0 0 t.data.toList
  if r.2.2 = 0 then (if t.size - r.2.1 ≤ r.1 then (⟨#[]⟩, 0, 2) else (t.extract r.2.1 (r.2.1 + r.1), r.2.1 + r.1 + 1, 0)) else (⟨#[]⟩, 0, r.2.2)
set_option maxRecDepth 100000 in
set_option maxHeartbeats 4000000 in
theorem cut_p (t : ByteArray) (hs : t.size ≤ 9223372036854775807) (w : World) :
    Calls Tryz.prog 116 #[.string t] w fun e w' => e = .returned (.tuple #[.string (cutP t).1, .int .i64 (cutP t).2.1, .int .i64 (cutP t).2.2]) ∧ w = w' := by
  have HL := length_p t hs
  unfold cutP
  have hle := lenP_le t.data.toList 0 0 (by omega) (by decide)
  have her := lenP_err t.data.toList 0 0
  generalize lenP 0 0 t.data.toList = r at *
  obtain ⟨n, k, e⟩ := r
  simp only at *
  rw [show t.data.toList.length = t.size from rfl] at hle
  by_cases h0 : e = 0
  · subst h0
    obtain ⟨h1, h2, h3, h4⟩ := hle rfl
    have HL' := Lib.hid HL
    clear hle her HL
    rw [if_pos rfl]
    have hk : (k : Int) ≤ t.size := by omega
    by_cases hm : t.size - k ≤ n
    · rw [if_pos hm]
      have hm' : (t.size : Int) - k ≤ n := by omega
      clear hm
      go_enter Tryz.func116, Tryz.ntmps116
      go_wp2_with fail
      refine (HL'.out _).mono ?_
      rintro _ w' ⟨rfl, rfl⟩
      go_wp2_with fail
      exact bodyPost_ret (v := .tuple #[.string _, .int .i64 _, .int .i64 _]) (by first | (simp [results, Tryz.results116, go_sem]; done) | (simp [results, Tryz.results116, go_sem]; exact ⟨rfl, rfl, rfl⟩)) rfl ⟨rfl, rfl⟩
    · rw [if_neg hm]
      have hm' : ¬ (t.size : Int) - k ≤ n := by omega
      have hm2 : (k : Int) + n ≤ t.size := by omega
      have hm3 : k + n ≤ t.size := by omega
      clear hm
      go_enter Tryz.func116, Tryz.ntmps116
      go_wp2_with fail
      refine (HL'.out _).mono ?_
      rintro _ w' ⟨rfl, rfl⟩
      go_wp2_with fail
      exact bodyPost_ret (v := .tuple #[.string _, .int .i64 _, .int .i64 _]) (by first | (simp [results, Tryz.results116, go_sem]; done) | (simp [results, Tryz.results116, go_sem]; exact ⟨rfl, rfl, rfl⟩)) rfl ⟨rfl, rfl⟩
  · rw [if_neg h0]
    obtain ⟨⟨rfl, rfl⟩, he⟩ := her h0
    have HL' := Lib.hid HL
    have h0' : ((e : Int) != 0) = true := by rw [bne_iff_ne]; omega
    clear hle her HL he h0
    go_enter Tryz.func116, Tryz.ntmps116
    go_wp2_with fail
    refine (HL'.out _).mono ?_
    rintro _ w' ⟨rfl, rfl⟩
    go_wp2_with fail
    exact bodyPost_ret (v := .tuple #[.string _, .int .i64 _, .int .i64 _]) (by first | (simp [results, Tryz.results116, go_sem]; done) | (simp [results, Tryz.results116, go_sem]; exact ⟨rfl, rfl, rfl⟩)) rfl ⟨rfl, rfl⟩
def pureB (k n : Int) (s : ByteArray) (len : Nat) : Bool :=
  if k = 1 then s.toList.isEmpty && decide (len = 0) else if k = 2 then decide (n = 0) && decide (len = 0) else if k = 3 then decide (n = 0) && s.toList.isEmpty else false
set_option maxRecDepth 100000 in
set_option maxHeartbeats 4000000 in
theorem pure_p (k n : Int) (s : ByteArray) (ad : Option Addr) (len cap : Nat) (w : World) :
    Calls Tryz.prog 123 #[.agg #[.int .i64 k, .int .i64 n, .string s, .slice ad len cap]] w fun e w' => e = .returned (.bool (pureB k n s len)) ∧ Below w.heap.size w w' := by
  unfold pureB
  by_cases h1 : k = 1
  · subst h1
    rw [if_pos rfl]
    cases hs : s.toList.isEmpty
    · go_enter Tryz.func123, Tryz.ntmps123
      go_wp2
      go_ret
      exact ⟨rfl, (Below.refl _ _).alloc (Nat.le_refl _) _⟩
    · go_enter Tryz.func123, Tryz.ntmps123
      go_wp2
      go_ret
      refine ⟨?_, (Below.refl _ _).alloc (Nat.le_refl _) _⟩
      by_cases hl : len = 0 <;> simp [hl]
  · rw [if_neg h1]
    have h1' : (k == 1) = false := by rw [beq_eq_false_iff_ne]; exact h1
    by_cases h2 : k = 2
    · subst h2
      rw [if_pos rfl]
      by_cases hn : n = 0
      · subst hn
        go_enter Tryz.func123, Tryz.ntmps123
        go_wp2
        go_ret
        refine ⟨?_, (Below.refl _ _).alloc (Nat.le_refl _) _⟩
        by_cases hl : len = 0 <;> simp [hl]
      · have hn' : (n == 0) = false := by rw [beq_eq_false_iff_ne]; exact hn
        go_enter Tryz.func123, Tryz.ntmps123
        go_wp2
        go_ret
        exact ⟨by simp [hn], (Below.refl _ _).alloc (Nat.le_refl _) _⟩
    · rw [if_neg h2]
      have h2' : (k == 2) = false := by rw [beq_eq_false_iff_ne]; exact h2
      by_cases h3 : k = 3
      · subst h3
        rw [if_pos rfl]
        by_cases hn : n = 0
        · subst hn
          go_enter Tryz.func123, Tryz.ntmps123
          go_wp2
          go_ret
          exact ⟨by simp, (Below.refl _ _).alloc (Nat.le_refl _) _⟩
        · have hn' : (n == 0) = false := by rw [beq_eq_false_iff_ne]; exact hn
          go_enter Tryz.func123, Tryz.ntmps123
          go_wp2
          go_ret
          exact ⟨by simp [hn], (Below.refl _ _).alloc (Nat.le_refl _) _⟩
      · rw [if_neg h3]
        have h3' : (k == 3) = false := by rw [beq_eq_false_iff_ne]; exact h3
        go_enter Tryz.func123, Tryz.ntmps123
        go_wp2
        go_ret
        exact ⟨rfl, (Below.refl _ _).alloc (Nat.le_refl _) _⟩
end Go.Proofs.YtaacdggjkfmehaaGreatDoor
namespace Go.Proofs.YtaacdggjkfmehaaGreatDoor
open Go.RowKit
inductive F where
  | nil
  | cons (k n : Int) (s : ByteArray) (kids rest : F)
def F.len : F → Nat
  | .nil => 0
  | .cons _ _ _ _ r => r.len + 1
def F.cnt : F → Nat
  | .nil => 0
  | .cons _ _ _ l r => 1 + l.cnt + r.cnt
def F.dep : F → Nat
  | .nil => 0
  | .cons _ _ _ l r => max (l.dep + 1) r.dep
def F.ok : F → Bool
  | .nil => true
  | .cons k n s l r => pureB k n s l.len && l.ok && r.ok
def F.All (Q : Int → Int → ByteArray → F → Prop) : F → Prop
  | .nil => True
  | .cons k n s l r => Q k n s l ∧ r.All Q
theorem F.all_of {Q : Int → Int → ByteArray → F → Prop} (h : ∀ k n s l, l.All Q → Q k n s l) : ∀ f : F, f.All Q
  | .nil => trivial
  | .cons k n s l r => ⟨h k n s l (F.all_of h l), F.all_of h r⟩
def RepF (w : World) (b : Nat) : Nat → F → Prop
  | _, .nil => True
  | off, .cons k n s l r =>
    w.cell? ⟨b, off, none⟩ = some (.int .i64 k) ∧ w.cell? ⟨b, off + 1, none⟩ = some (.int .i64 n) ∧ w.cell? ⟨b, off + 2, none⟩ = some (.string s) ∧
    (∃ ad cap, w.cell? ⟨b, off + 3, none⟩ = some (.slice ad l.len cap) ∧ (l = .nil ∨ ∃ b' o', ad = some ⟨b', o', none⟩ ∧ RepF w b' o' l)) ∧ RepF w b (off + 4) r
def RepS (w : World) (ad : Option Addr) (l : F) : Prop := l = .nil ∨ ∃ b o, ad = some ⟨b, o, none⟩ ∧ RepF w b o l
theorem cell_kept {w w' : World} {B : Nat} {a : Addr} {v : Value} (hb : Below B w w') (hB : w.heap.size ≤ B) (h : w.cell? a = some v) : w'.cell? a = some v := by
  rw [hb.cell (Nat.lt_of_lt_of_le (World.block_lt_of_cell? w _ h) hB)]; exact h
theorem RepF.kept {w w' : World} {B : Nat} (hb : Below B w w') (hB : w.heap.size ≤ B) : ∀ (f : F) (b off : Nat), RepF w b off f → RepF w' b off f
  | .nil, _, _, _ => trivial
  | .cons k n s l r, b, off, h => by
    obtain ⟨h0, h1, h2, ⟨ad, cap, h3, h4⟩, h5⟩ := h
    refine ⟨cell_kept hb hB h0, cell_kept hb hB h1, cell_kept hb hB h2, ⟨ad, cap, cell_kept hb hB h3, ?_⟩, RepF.kept hb hB r _ _ h5⟩
    rcases h4 with h4 | ⟨b', o', e, h4⟩
    · exact .inl h4
    · exact .inr ⟨b', o', e, RepF.kept hb hB l _ _ h4⟩
theorem RepS.kept {w w' : World} {B : Nat} {ad : Option Addr} {l : F} (h : RepS w ad l) (hb : Below B w w') (hB : w.heap.size ≤ B) : RepS w' ad l := by
  rcases h with h | ⟨b, o, e, h⟩
  · exact .inl h
  · exact .inr ⟨b, o, e, RepF.kept hb hB l _ _ h⟩
theorem RepS.below {w w' : World} {ad : Option Addr} {l : F} (h : RepS w ad l) (hb : Below w.heap.size w w') : RepS w' ad l := h.kept hb (Nat.le_refl _)
def vmayB (k n : Int) (s : ByteArray) (l : F) (d m : Int) : Bool := pureB k n s l.len && l.ok && decide ((l.dep : Int) + 1 ≤ d) && decide ((l.cnt : Int) + 1 ≤ m)
def valI (k n : Int) (s : ByteArray) (l : F) (d m : Int) : Int := if vmayB k n s l d m then (l.cnt : Int) + 1 else 0
def ValuesQ (k n : Int) (s : ByteArray) (l : F) : Prop := ∀ (d m : Int) (ad : Option Addr) (cap : Nat) (w : World), 0 ≤ d → d ≤ 1000000 → 0 ≤ m → m ≤ 1000000 → RepS w ad l →
  Calls Tryz.prog 112 #[.agg #[.int .i64 k, .int .i64 n, .string s, .slice ad l.len cap], .int .i64 d, .int .i64 m] w fun e w' => e = .returned (.int .i64 (valI k n s l d m)) ∧ Below w.heap.size w w'
def ValRel (w : World) (T d m : Int) (ad : Option Addr) (len : Nat) (may : Prop) (nv iv : Value) (wr : World) : Prop :=
  ∃ (i : Nat) (n : Int) (g : F), iv = .int .i64 i ∧ nv = .int .i64 n ∧ 1 ≤ n ∧ (i : Int) ≤ n ∧ n ≤ m ∧ i + g.len = len ∧ g.All ValuesQ ∧
    Hid ((may ↔ (g.ok = true ∧ (g.dep : Int) + 1 ≤ d ∧ n + g.cnt ≤ m)) ∧ n + g.cnt = T) ∧ (g = .nil ∨ ∃ b o, ad = some ⟨b, o, none⟩ ∧ RepF wr b (o + i * 4) g) ∧ Below w.heap.size w wr
set_option maxRecDepth 100000 in
set_option maxHeartbeats 4000000 in
theorem values_q (k n : Int) (s : ByteArray) (l : F) (hl : l.All ValuesQ) : ValuesQ k n s l := by
  intro d m ad cap w hd hd2 hm hm2 hr
  by_cases hd0 : d = 0
  · subst hd0
    have e : valI k n s l 0 m = 0 := by
      unfold valI vmayB
      rw [if_neg]
      simp only [Bool.and_eq_true, decide_eq_true_eq]
      omega
    rw [e]
    go_enter Tryz.func112, Tryz.ntmps112
    go_wp2_with fail
    go_ret
    exact ⟨rfl, (Below.refl _ _).alloc (Nat.le_refl _) _⟩
  have bd : (d == 0) = false := by rw [beq_eq_false_iff_ne]; exact hd0
  by_cases hm0 : m = 0
  · subst hm0
    have e : valI k n s l d 0 = 0 := by
      unfold valI vmayB
      rw [if_neg]
      simp only [Bool.and_eq_true, decide_eq_true_eq]
      omega
    rw [e]
    go_enter Tryz.func112, Tryz.ntmps112
    go_wp2_with fail
    go_ret
    exact ⟨rfl, (Below.refl _ _).alloc (Nat.le_refl _) _⟩
  have bm : (m == 0) = false := by rw [beq_eq_false_iff_ne]; exact hm0
  have P := Lib.hid (pure_p k n s ad l.len cap)
  cases hp : pureB k n s l.len with
  | false =>
    have e : valI k n s l d m = 0 := by
      unfold valI vmayB
      rw [hp]
      rfl
    rw [e]
    rw [hp] at P
    clear e
    go_enter Tryz.func112, Tryz.ntmps112
    go_wp2_with fail
    refine (P.out _).mono ?_
    rintro _ w1 ⟨rfl, hb1⟩
    go_wp2_with fail
    go_ret
    exact ⟨rfl, ((Below.refl _ _).alloc (Nat.le_refl _) _).trans (hb1.mono (by simp))⟩
  | true =>
    rw [hp] at P
    have HM : Hid (vmayB k n s l d m = true ↔ (l.ok = true ∧ (l.dep : Int) + 1 ≤ d ∧ 1 + (l.cnt : Int) ≤ m)) := Lib.hid (by
      unfold vmayB
      rw [hp]
      simp only [Bool.true_and, Bool.and_eq_true, decide_eq_true_eq]
      constructor
      · rintro ⟨⟨a, b⟩, c⟩; exact ⟨a, b, by omega⟩
      · rintro ⟨a, b, c⟩; exact ⟨⟨a, b⟩, by omega⟩)
    have HV : Hid ((vmayB k n s l d m = true → valI k n s l d m = 1 + (l.cnt : Int)) ∧ (¬ vmayB k n s l d m = true → valI k n s l d m = 0)) := Lib.hid (by
      unfold valI
      exact ⟨fun h => by rw [if_pos h]; omega, fun h => by rw [if_neg h]⟩)
    generalize valI k n s l d m = R at *
    have HR := Lib.hid hr
    have HL := Lib.hid hl
    clear hr hl hp
    go_enter Tryz.func112, Tryz.ntmps112
    go_wp2_with fail
    refine (P.out _).mono ?_
    rintro _ w1 ⟨rfl, hb1⟩
    have hbw : Below w.heap.size w w1 := ((Below.refl _ _).alloc (Nat.le_refl _) _).trans (hb1.mono (by simp))
    have c3 : w1.cell? ⟨w.heap.size, 3, none⟩ = some (.slice ad l.len cap) := by rw [hb1.cell (by simp)]; go_simp
    have HBW := Lib.hid hbw
    clear hb1 hbw
    go_wp2_with fail
    go_loopw [7, 25] (fun nv iv wr => ValRel w (1 + (l.cnt : Int)) d m ad l.len (vmayB k n s l d m = true) nv iv wr) (fun _ i _ => l.len - (intOf i).toNat)
    case atStart =>
      refine ⟨0, 1, l, rfl, rfl, by omega, by omega, by omega, by omega, HL.out, Lib.hid ⟨HM.out, rfl⟩, ?_, HBW.out⟩
      rcases HR.out with h | ⟨b, o, e, h⟩
      · exact .inl h
      · refine .inr ⟨b, o, e, ?_⟩
        simpa using RepF.kept HBW.out (Nat.le_refl _) l _ _ h
    case round =>
      obtain ⟨i, nn, g, rfl, rfl, h1, hin, hnm, hil, hQ, hH, hG, hB⟩ := hrel
      cases g with
      | nil =>
        have hlt : ¬ (i : Int) < (l.len : Int) := by simp only [F.len] at hil; omega
        obtain ⟨hM, hT⟩ := hH.out
        have hR : R = nn := by
          rw [HV.out.1 (hM.2 ⟨rfl, by simp only [F.dep]; omega, by simp only [F.cnt]; omega⟩)]
          simp only [F.cnt] at hT
          omega
        subst hR
        clear hM hT hH hG hQ
        go_wp2_with fail
        go_ret
        exact ⟨rfl, hB⟩
      | cons k' n' s' l' r' =>
        have hlt : (i : Int) < (l.len : Int) := by simp only [F.len] at hil; omega
        have hlt' : i < l.len := by omega
        obtain ⟨b, o, rfl, g0, g1, g2, ⟨ad', cap', g3, g4⟩, g5⟩ := hG.resolve_left (by simp)
        obtain ⟨hq, hQr⟩ := hQ
        have HQ := Lib.hid hQr
        have HG5 := Lib.hid g5
        have HG4 := Lib.hid (show RepS wr ad' l' from g4)
        have HB := Lib.hid hB
        have HQQ := Lib.hid hq
        have hsz : w.heap.size ≤ wr.heap.size := hB.size
        have HLEN := Lib.hid (show i + 1 + r'.len = l.len by simp only [F.len] at hil; omega)
        have hmn : 0 ≤ m - nn := by omega
        obtain ⟨ra, hra⟩ : ∃ ra, valI k' n' s' l' (d - 1) (m - nn) = ra := ⟨_, rfl⟩
        have hdd : 0 ≤ d - 1 := by omega
        have hda : Hid (¬ ra = 0 → ra = 1 + (l'.cnt : Int) ∧ ((vmayB k n s l d m = true ↔ (r'.ok = true ∧ (r'.dep : Int) + 1 ≤ d ∧ nn + ra + r'.cnt ≤ m)) ∧ nn + ra + r'.cnt = 1 + (l.cnt : Int)) ∧ 1 ≤ ra ∧ nn + ra ≤ m) := Lib.hid (by
          intro h0
          obtain ⟨hM, hT⟩ := hH.out
          have hmb : vmayB k' n' s' l' (d - 1) (m - nn) = true := by
            by_cases hh : vmayB k' n' s' l' (d - 1) (m - nn) = true
            · exact hh
            · exfalso; apply h0; rw [← hra]; unfold valI; rw [if_neg hh]
          have hr1 : ra = 1 + (l'.cnt : Int) := by rw [← hra]; unfold valI; rw [if_pos hmb]; omega
          unfold vmayB at hmb
          simp only [Bool.and_eq_true, decide_eq_true_eq] at hmb
          obtain ⟨⟨⟨q1, q2⟩, q3⟩, q4⟩ := hmb
          refine ⟨hr1, ⟨?_, ?_⟩, by omega, by omega⟩
          · rw [hM]
            simp only [F.ok, F.dep, F.cnt, Bool.and_eq_true]
            constructor
            · rintro ⟨⟨⟨_, _⟩, c⟩, e1, e2⟩; exact ⟨c, by omega, by omega⟩
            · rintro ⟨c, e1, e2⟩; exact ⟨⟨⟨q1, q2⟩, c⟩, by omega, by omega⟩
          · simp only [F.cnt] at hT
            omega)
        have hdb : Hid (ra = 0 → R = 0) := Lib.hid (by
          intro h0
          obtain ⟨hM, hT⟩ := hH.out
          apply HV.out.2
          intro hh
          obtain ⟨q1, q2, q3⟩ := hM.1 hh
          simp only [F.ok, F.dep, F.cnt, Bool.and_eq_true] at q1 q2 q3
          have : vmayB k' n' s' l' (d - 1) (m - nn) = true := by
            unfold vmayB
            simp only [Bool.and_eq_true, decide_eq_true_eq]
            exact ⟨⟨⟨q1.1.1, q1.1.2⟩, by omega⟩, by omega⟩
          rw [← hra] at h0
          unfold valI at h0
          rw [if_pos this] at h0
          omega)
        clear hH g5 g4 hQr hq hB hil
        have q0 : wr.cell? ⟨b, o + i * 4 + 0, none⟩ = some (.int .i64 k') := g0
        have hb3 : Below w.heap.size w (wr.alloc (.cells #[.int .i64 k', .int .i64 n', .string s', .slice ad' l'.len cap'] 121)) := HB.out.alloc hsz _
        have HB3 := Lib.hid hb3
        clear hb3
        by_cases h0 : ra = 0
        · obtain rfl := hdb.out h0
          subst h0
          go_wp2_with fail
          refine (HQQ.out (d - 1) (m - nn) ad' cap' _ (by omega) (by omega) (by omega) (by omega) ?_).mono ?_
          · exact HG4.out.below ((Below.refl _ _).alloc (Nat.le_refl _) _)
          rw [hra]
          rintro _ w2 ⟨rfl, hb2⟩
          go_wp2_with fail
          go_ret
          exact ⟨rfl, HB3.out.trans (hb2.mono HB3.out.size)⟩
        · have b0 : (ra == 0) = false := by rw [beq_eq_false_iff_ne]; exact h0
          have HDA := Lib.hid (hda.out h0)
          obtain ⟨hra1, hra2⟩ := (hda.out h0).2.2
          clear hda
          go_wp2_with fail
          refine (HQQ.out (d - 1) (m - nn) ad' cap' _ (by omega) (by omega) (by omega) (by omega) ?_).mono ?_
          · exact HG4.out.below ((Below.refl _ _).alloc (Nat.le_refl _) _)
          rw [hra]
          rintro _ w2 ⟨rfl, hb2⟩
          have HB2 := Lib.hid hb2
          clear hb2
          go_wp2_with fail
          go_roundw
          case rel =>
            obtain ⟨_, hM, _, _⟩ := HDA.out
            refine ⟨i + 1, nn + ra, r', by go_num, rfl, by omega, by omega, by omega, HLEN.out, HQ.out, Lib.hid hM, ?_, HB3.out.trans (HB2.out.mono HB3.out.size)⟩
            refine .inr ⟨b, o, rfl, ?_⟩
            have := (RepF.kept ((Below.refl _ _).alloc (Nat.le_refl _) _) (Nat.le_refl _) r' _ _ HG5.out).kept HB2.out (Nat.le_refl _)
            rw [show o + (i + 1) * 4 = o + i * 4 + 4 by omega]
            exact this
          case measure => simp [intOf]; omega
theorem values_all (f : F) : f.All ValuesQ := F.all_of values_q f
theorem values_p (k n : Int) (s : ByteArray) (l : F) : ValuesQ k n s l := values_q k n s l (values_all l)
def vmay (k n : Int) (s : ByteArray) (l : F) : Bool := vmayB k n s l 6 6000
theorem vmay_p (k n : Int) (s : ByteArray) (l : F) (ad : Option Addr) (cap : Nat) (w : World) (hr : RepS w ad l) :
    Calls Tryz.prog 102 #[.agg #[.int .i64 k, .int .i64 n, .string s, .slice ad l.len cap]] w fun e w' => e = .returned (.bool (vmay k n s l)) ∧ Below w.heap.size w w' := by
  have hb0 : Below w.heap.size w (w.alloc (.cells #[.int .i64 k, .int .i64 n, .string s, .slice ad l.len cap] 121)) := (Below.refl _ _).alloc (Nat.le_refl _) _
  have H := Lib.hid (values_p k n s l 6 6000 ad cap _ (by omega) (by omega) (by omega) (by omega) (hr.below hb0))
  have HV : Hid ((0 < valI k n s l 6 6000) ↔ vmay k n s l = true) := Lib.hid (by
    unfold valI vmay
    by_cases h : vmayB k n s l 6 6000 = true
    · rw [if_pos h]; simp only [h, iff_true]; omega
    · rw [if_neg h]; simp [h])
  generalize valI k n s l 6 6000 = v at *
  have HB0 := Lib.hid hb0
  clear hb0 hr
  cases hm : vmay k n s l with
  | true =>
    have h0 : 0 < v := HV.out.2 hm
    clear hm
    go_enter Tryz.func102, Tryz.ntmps102
    go_wp2_with fail
    refine H.out.mono ?_
    rintro _ w1 ⟨rfl, hb1⟩
    go_wp2_with fail
    go_ret
    exact ⟨rfl, HB0.out.trans (hb1.mono HB0.out.size)⟩
  | false =>
    have h0 : ¬ 0 < v := fun h => by rw [HV.out.1 h] at hm; cases hm
    clear hm
    go_enter Tryz.func102, Tryz.ntmps102
    go_wp2_with fail
    refine H.out.mono ?_
    rintro _ w1 ⟨rfl, hb1⟩
    go_wp2_with fail
    go_ret
    exact ⟨congrArg (fun b => Ending.returned (.bool b)) (decide_eq_false (by omega)), HB0.out.trans (hb1.mono HB0.out.size)⟩
end Go.Proofs.YtaacdggjkfmehaaGreatDoor
