/-
  Leaves of a journal, plainly: what the words of P4 say of them.
-/
import Derived.Test.YtaekieoingflaaaGreatDoorMark
import Derived.Test.YtaekieoingflaaaGreatDoorHex5
import Derived.Test.YtaekieoingflaaaGreatDoorTrip
namespace Go.Proofs.YtaekieoingflaaaGreatDoor
open Go.RowKit Go.Proofs.Flo Go.Proofs.Cpl

/-- A text's mark, in digits. -/
def markS (s : ByteArray) : ByteArray := strN (textL (gon (0, 1) s.data.toList))

theorem markS_is (s : ByteArray) : IsText (markS s) (gon (0, 1) s.data.toList) := ⟨ok_gon ok_i _, rfl⟩
theorem markS_size (s : ByteArray) : (markS s).size = 8 := text_size _

/-- A text's leaf. -/
def leafS (s : ByteArray) : ByteArray := if 400000 < s.size then ⟨#[]⟩ else markS s ++ frameS s ⟨#[44]⟩

theorem leafS_eq {s : ByteArray} (h : s.size ≤ 400000) : leafS s = markS s ++ frameS s ⟨#[44]⟩ := if_neg (by omega)

theorem leafS_size {s : ByteArray} (h : s.size ≤ 400000) : (leafS s).size = 10 + Lib.nDigits s.size + s.size := by
  rw [leafS_eq h, ByteArray.size_append, markS_size, frameS_len _ _ (by omega)]
  show 8 + (Lib.nDigits s.size + 1 + s.size + 1) = _
  omega

def noughts8 : ByteArray := ⟨#[48, 48, 48, 48, 48, 48, 48, 48]⟩

/-- The first eight digits of a text, noughts behind them where it has fewer. -/
def padS (s : ByteArray) : ByteArray := s.extract 0 (min s.size 8) ++ noughts8.extract (min s.size 8) 8

theorem padS_size (s : ByteArray) : (padS s).size = 8 := by
  unfold padS
  have : noughts8.size = 8 := rfl
  rw [ByteArray.size_append, ByteArray.size_extract, ByteArray.size_extract]
  omega

/-- Are these eight bytes some mark's digits? -/
def markedB (t : ByteArray) : Bool :=
  match rr 0 0 0 t.data.toList with
  | some (a, b) => decide (a < 65521) && decide (b < 65521)
  | none => false

theorem marked_yes {t : ByteArray} {p : Int × Int} (h : IsText t p) : markedB t = true := by
  obtain ⟨_, a, b, rfl, ha, hb, hr⟩ := is_rr h
  unfold markedB
  rw [hr]
  simp [ha, hb]

theorem marked_of {t : ByteArray} (h8 : t.size = 8) (h : markedB t = true) : ∃ p, IsText t p := by
  unfold markedB at h
  split at h
  · rename_i a b hr
    simp only [Bool.and_eq_true, decide_eq_true_eq] at h
    exact ⟨_, rr_is h8 hr h.1 h.2⟩
  · cases h

theorem marked_no {t : ByteArray} (h : markedB t = false) : ∀ p, ¬ IsText t p := fun p hp => by
  rw [marked_yes hp] at h
  cases h

/-- What Turn tells of a text. -/
def turnS (s : ByteArray) : ByteArray × Nat × Int :=
  if markedB (padS s) = false then (⟨#[]⟩, 0, 3) else if s.size < 8 then (⟨#[]⟩, 0, 2) else
    match getR (s.extract 8 s.size) with
    | .error e => (⟨#[]⟩, 0, if e = 2 then 2 else 3)
    | .ok x => if x.k = 2 ∧ markS x.s = s.extract 0 8 then (x.s, 8 + x.b, 0) else (⟨#[]⟩, 0, 3)

theorem extract_none (t : ByteArray) (k n : Nat) (h : t.size ≤ k) : t.extract k n = ⟨#[]⟩ := empty_of_size (by rw [ByteArray.size_extract]; omega)

theorem extract_fst (a b : ByteArray) (k : Nat) (h : k ≤ a.size) : (a ++ b).extract 0 k = a.extract 0 k := by
  apply ByteArray.ext
  apply Array.ext'
  rw [Lib.extract_data, Lib.extract_data, append_toList]
  simp only [List.drop_zero]
  exact List.take_append_of_le_length (by show k - 0 ≤ a.size; omega)

theorem extract_all (a : ByteArray) : a.extract 0 a.size = a := by
  apply ByteArray.ext
  apply Array.ext'
  rw [Lib.extract_data]
  simp only [List.drop_zero]
  exact List.take_of_length_le (by show a.size ≤ a.size - 0; omega)

theorem extract_snd (a b : ByteArray) (k n : Nat) (h : a.size ≤ k) : (a ++ b).extract k n = b.extract (k - a.size) (n - a.size) := by
  apply ByteArray.ext
  apply Array.ext'
  rw [Lib.extract_data, Lib.extract_data, append_toList, List.drop_append]
  rw [List.drop_eq_nil_of_le (show a.data.toList.length ≤ k from h), List.nil_append]
  show List.take (n - k) (List.drop (k - a.size) b.data.toList) = _
  congr 1
  omega

theorem pad_whole {s : ByteArray} (h : 8 ≤ s.size) : padS s = s.extract 0 8 := by
  unfold padS
  rw [Nat.min_eq_right h, extract_none noughts8 8 8 (Nat.le_refl 8), append_none]

theorem getR_frame (s r : ByteArray) (h : s.size ≤ 9999999) : getR (frameS s ⟨#[44]⟩ ++ r) = .ok ⟨2, 0, s, .nil, (frameS s ⟨#[44]⟩).size, 1⟩ :=
  getP_str 5 6000 (by decide) s r h

theorem turn_leaf (s r : ByteArray) (h : s.size ≤ 400000) : turnS (leafS s ++ r) = (s, (leafS s).size, 0) := by
  have h8 := markS_size s
  have e0 : leafS s ++ r = markS s ++ (frameS s ⟨#[44]⟩ ++ r) := by rw [leafS_eq h, ByteArray.append_assoc]
  have e1 : (leafS s ++ r).extract 0 8 = markS s := by
    rw [e0, extract_fst _ _ _ (by omega), ← h8, extract_all]
  have e2 : (leafS s ++ r).extract 8 (leafS s ++ r).size = frameS s ⟨#[44]⟩ ++ r := by
    have := extract_app (markS s) (frameS s ⟨#[44]⟩ ++ r)
    rw [h8] at this
    rw [e0]
    exact this
  have e3 : 8 ≤ (leafS s ++ r).size := by
    rw [e0, ByteArray.size_append]
    omega
  unfold turnS
  rw [pad_whole e3, e1, e2, marked_yes (markS_is s), if_neg (by decide), if_neg (by omega), getR_frame _ _ (by omega)]
  simp only [and_self, if_true]
  rw [leafS_eq h, ByteArray.size_append, h8]

theorem turn_bd {s : ByteArray} (h : (turnS s).2.2 = 0) : 9 ≤ (turnS s).2.1 ∧ (turnS s).2.1 ≤ s.size := by
  unfold turnS at h ⊢
  split at h
  · cases h
  · split at h
    · cases h
    · rename_i h1 h2
      rw [if_neg h1, if_neg h2]
      split at h
      · simp only at h
        split at h <;> cases h
      · rename_i x hx
        split at h
        · rename_i h3
          rw [if_pos h3]
          have := getP_bd 6 _ 6000 x hx (by decide)
          have hb := cutP_bd _ this.2.2
          rw [← this.2.1, ByteArray.size_extract] at hb
          simp only
          omega
        · cases h

theorem turn_err (s : ByteArray) : (turnS s).2.2 = 0 ∨ (turnS s).2.2 = 2 ∨ (turnS s).2.2 = 3 := by
  unfold turnS
  split
  · simp
  · split
    · simp
    · split
      · simp only
        split <;> simp
      · split <;> simp

/-- All whole leaves at a text's beginning, how many bytes they take, the error. -/
def walkS : Nat → ByteArray → List ByteArray × Nat × Int
  | 0, _ => ([], 0, 0)
  | f + 1, s => if s.size = 0 then ([], 0, 0) else if (turnS s).2.2 = 0 then
      ((turnS s).1 :: (walkS f (s.extract (turnS s).2.1 s.size)).1, (turnS s).2.1 + (walkS f (s.extract (turnS s).2.1 s.size)).2.1, (walkS f (s.extract (turnS s).2.1 s.size)).2.2)
    else if (turnS s).2.2 = 2 then ([], 0, 0) else ([], 0, 3)

/-- Leaves one behind the other. -/
def leavesS : List ByteArray → ByteArray
  | [] => ⟨#[]⟩
  | s :: l => leafS s ++ leavesS l

theorem leavesS_append (l m : List ByteArray) : leavesS (l ++ m) = leavesS l ++ leavesS m := by
  induction l with
  | nil =>
    show leavesS m = (⟨#[]⟩ : ByteArray) ++ leavesS m
    apply ByteArray.ext
    apply Array.ext'
    rw [append_toList]
    rfl
  | cons s l ih =>
    show leafS s ++ leavesS (l ++ m) = (leafS s ++ leavesS l) ++ leavesS m
    rw [ih, ByteArray.append_assoc]

theorem leaves_one (s : ByteArray) : leavesS [s] = leafS s := append_none _

theorem leavesS_snoc (l : List ByteArray) (s : ByteArray) : leavesS (l ++ [s]) = leavesS l ++ leafS s := by
  rw [leavesS_append, leaves_one]

theorem walk_leaves (rest : ByteArray) : ∀ (l : List ByteArray) (f : Nat), (∀ s ∈ l, s.size ≤ 400000) → (leavesS l ++ rest).size ≤ f →
    (rest.size = 0 ∨ (turnS rest).2.2 = 2 → walkS f (leavesS l ++ rest) = (l, (leavesS l).size, 0)) ∧ (rest.size ≠ 0 → (turnS rest).2.2 = 3 → (walkS f (leavesS l ++ rest)).2.2 = 3)
  | [], f, _, hf => by
    have e0 : leavesS [] ++ rest = rest := by
      show (⟨#[]⟩ : ByteArray) ++ rest = rest
      apply ByteArray.ext
      apply Array.ext'
      rw [append_toList]
      rfl
    rw [e0] at hf ⊢
    cases f with
    | zero =>
      refine ⟨fun _ => rfl, fun h1 _ => absurd (by omega : rest.size = 0) h1⟩
    | succ f =>
      unfold walkS
      refine ⟨fun h => ?_, fun h1 h2 => ?_⟩
      · rcases h with h | h
        · rw [if_pos h]; rfl
        · split
          · rfl
          · first | rfl | (rw [if_neg (by rw [h]; decide)]; rfl) | (rw [if_neg (by rw [h]; decide), if_pos h]; rfl)
      · rw [if_neg h1, if_neg (by rw [h2]; decide), if_neg (by rw [h2]; decide)]
  | s :: l, f, hl, hf => by
    have hs := hl s (by simp)
    have hz := leafS_size hs
    have e0 : leavesS (s :: l) ++ rest = leafS s ++ (leavesS l ++ rest) := by
      show (leafS s ++ leavesS l) ++ rest = _
      rw [ByteArray.append_assoc]
    rw [e0] at hf ⊢
    have e1 := turn_leaf s (leavesS l ++ rest) hs
    have e2 := extract_app (leafS s) (leavesS l ++ rest)
    rw [ByteArray.size_append] at hf
    cases f with
    | zero => omega
    | succ f =>
      have ih := walk_leaves rest l f (fun x hx => hl x (by simp [hx])) (by omega)
      unfold walkS
      rw [if_neg (by rw [ByteArray.size_append]; omega), e1]
      simp only [if_true]
      rw [e2]
      refine ⟨fun h => ?_, fun h1 h2 => ih.2 h1 h2⟩
      rw [ih.1 h]
      show (s :: l, (leafS s).size + (leavesS l).size, (0 : Int)) = (s :: l, (leafS s ++ leavesS l).size, 0)
      rw [ByteArray.size_append]

#print axioms walk_leaves
end Go.Proofs.YtaekieoingflaaaGreatDoor

/-
  A leaf's beginning: more is to come.
-/
namespace Go.Proofs.YtaekieoingflaaaGreatDoor
open Go.RowKit Go.Proofs.Flo Go.Proofs.Cpl

theorem dig_take : ∀ (u k : Nat), (Lib.decDigits u).take k = [] ∨ ∃ v, v ≤ u ∧ (Lib.decDigits u).take k = Lib.decDigits v := by
  intro u
  induction u using Nat.strongRecOn with
  | _ u ih =>
    intro k
    by_cases h : u < 10
    · have e : Lib.decDigits u = [UInt8.ofNat (48 + u)] := by rw [Lib.decDigits, dif_pos h]
      cases k with
      | zero => exact .inl rfl
      | succ k => exact .inr ⟨u, Nat.le_refl _, by rw [e]; simp⟩
    · have e : Lib.decDigits u = Lib.decDigits (u / 10) ++ [UInt8.ofNat (48 + u % 10)] := by rw [Lib.decDigits, dif_neg h]
      by_cases hk : k ≤ (Lib.decDigits (u / 10)).length
      · rw [e, List.take_append_of_le_length hk]
        rcases ih (u / 10) (by omega) k with h1 | ⟨v, h1, h2⟩
        · exact .inl h1
        · exact .inr ⟨v, by omega, h2⟩
      · refine .inr ⟨u, Nat.le_refl _, List.take_of_length_le ?_⟩
        rw [e, List.length_append, List.length_singleton]
        omega

theorem take_cons_more {α : Type} (a : List α) (c : α) (b : List α) (k : Nat) (h : a.length < k) : (a ++ c :: b).take k = a ++ c :: b.take (k - a.length - 1) := by
  rw [List.take_append, List.take_of_length_le (by omega)]
  congr 1
  obtain ⟨j, hj⟩ : ∃ j, k - a.length = j + 1 := ⟨k - a.length - 1, by omega⟩
  rw [hj]
  rfl

/-- A frame's beginning. -/
theorem front_more (t e : ByteArray) (he : e.size = 1) (h : t.size ≤ 9999999) (k : Nat) (hk : k < (frameS t e).size) : (cutP ((frameS t e).extract 0 k)).2.2 = 2 := by
  have hsz := frameS_len t e h
  have hd : (Lib.decDigits t.size).length = Lib.nDigits t.size := Lib.decDigits_length _
  have hl : ((frameS t e).extract 0 k).data.toList = (Lib.decDigits t.size ++ 58 :: (t.data.toList ++ e.data.toList)).take k := by
    rw [Lib.extract_data, frame_list t e h]
    simp
  have hz : ((frameS t e).extract 0 k).size = k := by rw [ByteArray.size_extract]; omega
  unfold cutP
  rw [hl]
  by_cases h1 : k ≤ (Lib.decDigits t.size).length
  · rw [List.take_append_of_le_length h1]
    rcases dig_take t.size k with h2 | ⟨v, h2, h3⟩
    · rw [h2]
      rfl
    · have h4 := lenP_dig [] v (by omega)
      rw [List.append_nil] at h4
      rw [h3, h4]
      rfl
  · have hlen : lenP 0 0 ((Lib.decDigits t.size ++ 58 :: (t.data.toList ++ e.data.toList)).take k) = (t.size, Lib.nDigits t.size + 1, 0) := by
      have hp := Lib.nDigits_pos t.size
      rw [take_cons_more _ _ _ _ (by omega), lenP_dig _ _ (by omega), lenP, if_neg (by decide), if_neg]
      rintro (h0 | h0)
      · omega
      · exact h0 (by decide)
    rw [hlen]
    simp only [if_true]
    rw [if_pos (by rw [hz]; omega)]

theorem strN_take (l : List Int) (k : Nat) : (strN l).extract 0 k = strN (l.take k) := by
  apply ByteArray.ext
  apply Array.ext'
  rw [Lib.extract_data]
  simp [strN, List.map_take]

theorem noughts_take (k : Nat) (hk : k ≤ 8) : noughts8.extract k 8 = strN (List.replicate (8 - k) 48) := by
  match k, hk with
  | 0, _ => rfl
  | 1, _ => rfl
  | 2, _ => rfl
  | 3, _ => rfl
  | 4, _ => rfl
  | 5, _ => rfl
  | 6, _ => rfl
  | 7, _ => rfl
  | 8, _ => rfl

theorem four_cut (a j : Nat) (hj : j ≤ 4) : ∃ a', a' ≤ a ∧ fourL a' = (fourL a).take j ++ List.replicate (4 - j) 48 := by
  have d0 : dg 0 = 48 := rfl
  match j, hj with
  | 0, _ => exact ⟨0, Nat.zero_le _, rfl⟩
  | 1, _ =>
    obtain ⟨a', ha⟩ : ∃ a', a' = a / 4096 * 4096 := ⟨_, rfl⟩
    refine ⟨a', by omega, ?_⟩
    have e1 : a' / 4096 % 16 = a / 4096 % 16 := by omega
    have e2 : a' / 256 % 16 = 0 := by omega
    have e3 : a' / 16 % 16 = 0 := by omega
    have e4 : a' % 16 = 0 := by omega
    unfold fourL
    rw [e1, e2, e3, e4, d0]
    rfl
  | 2, _ =>
    obtain ⟨a', ha⟩ : ∃ a', a' = a / 256 * 256 := ⟨_, rfl⟩
    refine ⟨a', by omega, ?_⟩
    have e1 : a' / 4096 % 16 = a / 4096 % 16 := by omega
    have e2 : a' / 256 % 16 = a / 256 % 16 := by omega
    have e3 : a' / 16 % 16 = 0 := by omega
    have e4 : a' % 16 = 0 := by omega
    unfold fourL
    rw [e1, e2, e3, e4, d0]
    rfl
  | 3, _ =>
    obtain ⟨a', ha⟩ : ∃ a', a' = a / 16 * 16 := ⟨_, rfl⟩
    refine ⟨a', by omega, ?_⟩
    have e1 : a' / 4096 % 16 = a / 4096 % 16 := by omega
    have e2 : a' / 256 % 16 = a / 256 % 16 := by omega
    have e3 : a' / 16 % 16 = a / 16 % 16 := by omega
    have e4 : a' % 16 = 0 := by omega
    unfold fourL
    rw [e1, e2, e3, e4, d0]
    rfl
  | 4, _ => exact ⟨a, Nat.le_refl _, rfl⟩

theorem pad_digits (a b k : Nat) (hk : k ≤ 8) : ∃ a' b', a' ≤ a ∧ b' ≤ b ∧ (fourL a ++ fourL b).take k ++ List.replicate (8 - k) 48 = fourL a' ++ fourL b' := by
  have hl : (fourL a).length = 4 := rfl
  by_cases h : k ≤ 4
  · obtain ⟨a', h1, h2⟩ := four_cut a k h
    refine ⟨a', 0, h1, Nat.zero_le _, ?_⟩
    rw [List.take_append_of_le_length (by rw [hl]; exact h), h2, show 8 - k = (4 - k) + 4 by omega, ← List.replicate_append_replicate, List.append_assoc]
    rfl
  · obtain ⟨b', h1, h2⟩ := four_cut b (k - 4) (by omega)
    refine ⟨a, b', Nat.le_refl _, h1, ?_⟩
    rw [List.take_append, List.take_of_length_le (by rw [hl]; omega), hl, h2, List.append_assoc, show 4 - (k - 4) = 8 - k by omega]

theorem pad_front (s : ByteArray) (k : Nat) (hk : k ≤ 8) : markedB ((markS s).extract 0 k ++ noughts8.extract k 8) = true := by
  obtain ⟨a, b, hp, ha, hb⟩ := ok_nat (ok_gon ok_i s.data.toList)
  have e1 : markS s = strN (fourL a ++ fourL b) := by
    unfold markS textL
    rw [hp]
    simp
  obtain ⟨a', b', h1, h2, h3⟩ := pad_digits a b k hk
  have e2 : (markS s).extract 0 k ++ noughts8.extract k 8 = strN (fourL a' ++ fourL b') := by
    rw [e1, strN_take, noughts_take k hk, strN_append, h3]
  rw [e2]
  unfold markedB
  rw [rr_text a' b' (by omega) (by omega)]
  simp
  omega

/-- Turn, at a leaf's beginning. -/
theorem turn_front (s : ByteArray) (hs : s.size ≤ 400000) (k : Nat) (hk : k < (leafS s).size) : turnS ((leafS s).extract 0 k) = (⟨#[]⟩, 0, 2) := by
  have h8 := markS_size s
  have hz : ((leafS s).extract 0 k).size = k := by rw [ByteArray.size_extract]; omega
  have e0 := leafS_eq hs
  unfold turnS
  by_cases h : k < 8
  · have e1 : padS ((leafS s).extract 0 k) = (markS s).extract 0 k ++ noughts8.extract k 8 := by
      unfold padS
      rw [hz, Nat.min_eq_left (by omega)]
      congr 1
      rw [e0, extract_fst _ _ _ (by omega)]
      conv => lhs; rw [show k = ((markS s).extract 0 k).size by rw [ByteArray.size_extract]; omega]
      conv => lhs; rw [show ((markS s).extract 0 k).size = k by rw [ByteArray.size_extract]; omega]
      have := extract_all ((markS s).extract 0 k)
      rw [show ((markS s).extract 0 k).size = k by rw [ByteArray.size_extract]; omega] at this
      exact this
    rw [e1, pad_front s k (by omega), if_neg (by decide), if_pos (by rw [hz]; exact h)]
  · have e1 : padS ((leafS s).extract 0 k) = (markS s).extract 0 8 ++ noughts8.extract 8 8 := by
      rw [pad_whole (by rw [hz]; omega), extract_none noughts8 8 8 (Nat.le_refl 8), append_none]
      apply ByteArray.ext
      apply Array.ext'
      rw [Lib.extract_data, Lib.extract_data, Lib.extract_data, e0, append_toList]
      simp only [List.drop_zero]
      rw [List.take_take, Nat.min_eq_left (by omega), List.take_append_of_le_length (by show 8 - 0 ≤ (markS s).size; omega)]
    have e2 : ((leafS s).extract 0 k).extract 8 ((leafS s).extract 0 k).size = (frameS s ⟨#[44]⟩).extract 0 (k - 8) := by
      rw [hz]
      apply ByteArray.ext
      apply Array.ext'
      rw [Lib.extract_data, Lib.extract_data, Lib.extract_data, e0, append_toList]
      simp only [List.drop_zero, Nat.sub_zero]
      rw [List.drop_take, List.take_take, Nat.min_self, List.drop_append]
      rw [List.drop_eq_nil_of_le (show (markS s).data.toList.length ≤ 8 by show (markS s).size ≤ 8; omega), List.nil_append]
      rw [show (markS s).data.toList.length = 8 from h8, Nat.sub_self]
      rfl
    have hk2 : k - 8 < (frameS s ⟨#[44]⟩).size := by
      rw [e0, ByteArray.size_append, h8] at hk
      omega
    have e3 := front_more s ⟨#[44]⟩ rfl (by omega) (k - 8) hk2
    have e4 : getR ((frameS s ⟨#[44]⟩).extract 0 (k - 8)) = .error 2 := by
      unfold getR
      rw [getP, if_neg (by rw [e3]; decide), e3]
    rw [e1, pad_front s 8 (by omega), if_neg (by decide), if_neg (by rw [hz]; exact h), e2, e4]
    rfl

#print axioms turn_front
end Go.Proofs.YtaekieoingflaaaGreatDoor
