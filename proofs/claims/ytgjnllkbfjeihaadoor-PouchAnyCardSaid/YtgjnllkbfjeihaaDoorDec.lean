/-
  Numbers in base 10, lengths, frames: what pouch's texts come to and back.
-/
import Derived.Test.YtgjnllkbfjeihaaDoorPouch6
import Derived.Lib.ParseIntBTie
namespace Go.Proofs.YtgjnllkbfjeihaaDoor
open Go.RowKit

theorem nd_le : ∀ (d u : Nat), 1 ≤ d → u < 10 ^ d → Lib.nDigits u ≤ d
  | 0, _, h, _ => by omega
  | d + 1, u, _, h => by
    by_cases h0 : u < 10
    · rw [Lib.nDigits_small h0]; omega
    · rw [Lib.nDigits_big h0]
      rw [Nat.pow_succ] at h
      by_cases hd : d = 0
      · subst hd; simp at h; omega
      · have := nd_le d (u / 10) (by omega) (by omega)
        omega

theorem dig_toNat (d : Nat) (h : d < 10) : (UInt8.ofNat (48 + d)).toNat = 48 + d := by
  simp only [UInt8.toNat_ofNat']
  omega

/-- A number's digits ahead of something: its length is reckoned. -/
theorem lenP_dig (l : List UInt8) : ∀ (u : Nat), u < 10000000 → lenP 0 0 (Lib.decDigits u ++ l) = lenP u (Lib.nDigits u) l := by
  intro u
  induction u using Nat.strongRecOn generalizing l with
  | _ u ih =>
    intro hu
    by_cases h : u < 10
    · rw [Lib.decDigits, dif_pos h, Lib.nDigits_small h]
      show lenP 0 0 (UInt8.ofNat (48 + u) :: l) = _
      have hd := dig_toNat u h
      rw [lenP, if_pos (by omega), if_neg (by omega), hd]
      congr 1
      omega
    · rw [Lib.decDigits, dif_neg h, Lib.nDigits_big h, List.append_assoc, ih (u / 10) (by omega) _ (by omega)]
      show lenP (u / 10) (Lib.nDigits (u / 10)) (UInt8.ofNat (48 + u % 10) :: l) = _
      have hd := dig_toNat (u % 10) (by omega)
      have hn := nd_le 6 (u / 10) (by omega) (by omega)
      rw [lenP, if_pos (by omega), if_neg (by omega), hd]
      congr 1
      omega

theorem parse_dig (l : List UInt8) : ∀ (u : Nat), u < 18446744073709551616 → Lib.parseUint10 0 (Lib.decDigits u ++ l) = Lib.parseUint10 u l := by
  intro u
  induction u using Nat.strongRecOn generalizing l with
  | _ u ih =>
    intro hu
    by_cases h : u < 10
    · rw [Lib.decDigits, dif_pos h]
      show Lib.parseUint10 0 (UInt8.ofNat (48 + u) :: l) = _
      have hd := dig_toNat u h
      rw [Lib.parseUint10, if_pos (by omega), if_neg (by omega), if_neg (by omega), hd]
      congr 1
      omega
    · rw [Lib.decDigits, dif_neg h, List.append_assoc, ih (u / 10) (by omega) _ (by omega)]
      show Lib.parseUint10 (u / 10) (UInt8.ofNat (48 + u % 10) :: l) = _
      have hd := dig_toNat (u % 10) (by omega)
      rw [Lib.parseUint10, if_pos (by omega), if_neg (by omega), if_neg (by omega), hd]
      congr 1
      omega

theorem dig_all : ∀ (u : Nat), ∀ c ∈ Lib.decDigits u, 48 ≤ c.toNat ∧ c.toNat ≤ 57 := by
  intro u
  induction u using Nat.strongRecOn with
  | _ u ih =>
    intro c hc
    by_cases h : u < 10
    · rw [Lib.decDigits, dif_pos h] at hc
      obtain rfl := List.mem_singleton.1 hc
      rw [dig_toNat u h]; omega
    · rw [Lib.decDigits, dif_neg h] at hc
      rcases List.mem_append.1 hc with hc | hc
      · exact ih (u / 10) (by omega) c hc
      · obtain rfl := List.mem_singleton.1 hc
        rw [dig_toNat _ (by omega)]; omega

/-- The first digit: a nought just of nought. -/
theorem dig_head : ∀ (u : Nat), ∃ c r, Lib.decDigits u = c :: r ∧ (1 ≤ u → 49 ≤ c.toNat) ∧ 48 ≤ c.toNat ∧ c.toNat ≤ 57 ∧ (u = 0 → c = 48 ∧ r = []) := by
  intro u
  induction u using Nat.strongRecOn with
  | _ u ih =>
    by_cases h : u < 10
    · refine ⟨UInt8.ofNat (48 + u), [], by rw [Lib.decDigits, dif_pos h], ?_, ?_, ?_, ?_⟩
      · intro h1; rw [dig_toNat u h]; omega
      · rw [dig_toNat u h]; omega
      · rw [dig_toNat u h]; omega
      · rintro rfl; exact ⟨rfl, rfl⟩
    · obtain ⟨c, r, h1, h2, h3, h4, _⟩ := ih (u / 10) (by omega)
      refine ⟨c, r ++ [UInt8.ofNat (48 + u % 10)], by rw [Lib.decDigits, dif_neg h, h1]; rfl, fun _ => h2 (by omega), h3, h4, fun h0 => by omega⟩

/-- A number in base 10: digits, or a minus and digits, the first one no nought. -/
theorem itoa_form (v : Int) : (∃ u : Nat, v = u ∧ Lib.itoa v = Lib.decDigits u) ∨ (∃ u : Nat, 1 ≤ u ∧ v = -(u : Int) ∧ Lib.itoa v = 45 :: Lib.decDigits u) := by
  by_cases h : v < 0
  · refine .inr ⟨v.natAbs, by omega, by omega, ?_⟩
    unfold Lib.itoa; rw [if_pos h]
  · refine .inl ⟨v.toNat, by omega, ?_⟩
    unfold Lib.itoa; rw [if_neg h]

theorem atoi_itoa (v : Int) (h0 : -9223372036854775808 ≤ v) (h1 : v ≤ 9223372036854775807) : Lib.atoiAll (Lib.itoa v) = .ok v := by
  rcases itoa_form v with ⟨u, rfl, hu⟩ | ⟨u, h, rfl, hu⟩
  · rw [hu]
    obtain ⟨c, r, hc, _, hc1, hc2, _⟩ := dig_head u
    have hp : Lib.parseMag (Lib.decDigits u) = .ok u := by
      unfold Lib.parseMag
      rw [if_neg (by rw [hc]; simp)]
      have := parse_dig [] u (by omega)
      rw [List.append_nil] at this
      rw [this]; rfl
    rw [hc] at hp ⊢
    unfold Lib.atoiAll
    simp only
    rw [if_neg (by omega), hp]
    simp only
    rw [if_neg (by omega), if_neg (by omega), if_neg (by omega)]
  · rw [hu]
    obtain ⟨c, r, hc, _, hc1, hc2, _⟩ := dig_head u
    have hp : Lib.parseMag (Lib.decDigits u) = .ok u := by
      unfold Lib.parseMag
      rw [if_neg (by rw [hc]; simp)]
      have := parse_dig [] u (by omega)
      rw [List.append_nil] at this
      rw [this]; rfl
    unfold Lib.atoiAll
    simp only
    rw [if_pos (.inr (by decide)), hp]
    simp only
    rw [if_neg (fun h => h.1 (by decide)), if_neg (by omega), if_pos (by decide)]

theorem decS_list (v : Int) : (decS v).data.toList = Lib.itoa v := by
  unfold decS
  rw [List.toList_toArray]

theorem numP_dec (v : Int) (h0 : -9223372036854775808 ≤ v) (h1 : v ≤ 9223372036854775807) : numP (decS v) = some v := by
  unfold numP
  rw [decS_list, Lib.parseIntB_64, atoi_itoa v h0 h1]
  simp only [if_true]

theorem numP_inv {t : ByteArray} {v : Int} (h : numP t = some v) : t = decS v ∧ -9223372036854775808 ≤ v ∧ v ≤ 9223372036854775807 := by
  unfold numP at h
  split at h
  · rename_i v' hp
    split at h
    · rename_i he
      cases h
      exact ⟨he.symm, parse_range hp⟩
    · cases h
  · cases h

/-- Other texts are no numbers. -/
theorem numP_no {t : ByteArray} (h : ∀ v : Int, -9223372036854775808 ≤ v → v ≤ 9223372036854775807 → t.data.toList ≠ Lib.itoa v) : numP t = none := by
  cases hp : numP t with
  | none => rfl
  | some v =>
    obtain ⟨rfl, h0, h1⟩ := numP_inv hp
    exact absurd (decS_list v) (h v h0 h1)

theorem itoa_ne (v : Int) : ∃ c r, Lib.itoa v = c :: r := by
  rcases itoa_form v with ⟨u, _, hu⟩ | ⟨u, _, _, hu⟩
  · obtain ⟨c, r, hc, _⟩ := dig_head u
    exact ⟨c, r, by rw [hu, hc]⟩
  · exact ⟨_, _, hu⟩

theorem itoa_lead (v n : Int) : 48 :: Lib.itoa n ≠ Lib.itoa v := by
  intro h
  obtain ⟨c', r', hn⟩ := itoa_ne n
  rcases itoa_form v with ⟨u, _, hu⟩ | ⟨u, _, _, hu⟩
  · obtain ⟨c, r, hc, h1, _, _, h2⟩ := dig_head u
    rw [hu, hc, hn] at h
    injection h with ha hb
    by_cases h0 : u = 0
    · rw [(h2 h0).2] at hb; cases hb
    · have := h1 (by omega)
      rw [← ha] at this
      revert this; decide
  · rw [hu] at h
    injection h with ha hb
    revert ha; decide

theorem itoa_plus (v : Int) (l : List UInt8) : 43 :: l ≠ Lib.itoa v := by
  intro h
  rcases itoa_form v with ⟨u, _, hu⟩ | ⟨u, _, _, hu⟩
  · obtain ⟨c, r, hc, _, h1, _⟩ := dig_head u
    rw [hu, hc] at h
    injection h with ha hb
    rw [← ha] at h1
    revert h1; decide
  · rw [hu] at h
    injection h with ha hb
    revert ha; decide

theorem itoa_blank (v : Int) (l : List UInt8) : l ++ [32] ≠ Lib.itoa v := by
  intro h
  have hm : (32 : UInt8) ∈ Lib.itoa v := by rw [← h]; simp
  rcases itoa_form v with ⟨u, _, hu⟩ | ⟨u, _, _, hu⟩
  · rw [hu] at hm
    have := (dig_all u _ hm).1
    revert this; decide
  · rw [hu] at hm
    rcases List.mem_cons.1 hm with hm | hm
    · revert hm; decide
    · have := (dig_all u _ hm).1
      revert this; decide

theorem itoa_m0 (v : Int) : [45, 48] ≠ Lib.itoa v := by
  intro h
  rcases itoa_form v with ⟨u, _, hu⟩ | ⟨u, h1, _, hu⟩
  · obtain ⟨c, r, hc, _, hc1, _⟩ := dig_head u
    rw [hu, hc] at h
    injection h with ha hb
    rw [← ha] at hc1
    revert hc1; decide
  · obtain ⟨c, r, hc, hc1, _⟩ := dig_head u
    rw [hu, hc] at h
    injection h with _ hb
    injection hb with ha hb
    have := hc1 h1
    rw [← ha] at this
    revert this; decide

theorem itoa_len (v : Int) (h0 : -9223372036854775808 ≤ v) (h1 : v ≤ 9223372036854775807) : 1 ≤ (Lib.itoa v).length ∧ (Lib.itoa v).length ≤ 20 := by
  rcases itoa_form v with ⟨u, rfl, hu⟩ | ⟨u, h, rfl, hu⟩
  · rw [hu, Lib.decDigits_length]
    exact ⟨Lib.nDigits_pos u, Nat.le_succ_of_le (nd_le 19 u (by decide) (by omega))⟩
  · rw [hu, List.length_cons, Lib.decDigits_length]
    have := nd_le 19 u (by decide) (by omega)
    omega

theorem itoa_long (v : Int) (l : List UInt8) (h0 : -9223372036854775808 ≤ v) (h1 : v ≤ 9223372036854775807) (hl : 21 ≤ l.length) : l ≠ Lib.itoa v := by
  rintro rfl
  have := (itoa_len v h0 h1).2
  omega

theorem frame_list (t e : ByteArray) (h : t.size ≤ 9999999) : (frameS t e).data.toList = Lib.decDigits t.size ++ 58 :: (t.data.toList ++ e.data.toList) := by
  unfold frameS
  rw [if_pos h]
  simp only [ByteArray.data_append, Array.toList_append, decS_list]
  rw [Lib.itoa_nonneg]
  simp

theorem frameS_len (t e : ByteArray) (h : t.size ≤ 9999999) : (frameS t e).size = Lib.nDigits t.size + 1 + t.size + e.size := by
  show (frameS t e).data.size = _
  rw [← Array.length_toList, frame_list t e h]
  simp only [List.length_append, List.length_cons, Lib.decDigits_length, Array.length_toList]
  show _ + (t.size + e.size + 1) = _
  omega

/-- What is cut from a frame with something behind it. -/
theorem cut_frame (t e r : ByteArray) (h : t.size ≤ 9999999) (he : e.size = 1) :
    cutP (frameS t e ++ r) = (t, (frameS t e).size, 0) ∧ ((frameS t e ++ r).extract ((frameS t e).size - 1) (frameS t e).size).data.toList = e.data.toList := by
  have hL : (frameS t e ++ r).data.toList = Lib.decDigits t.size ++ 58 :: (t.data.toList ++ (e.data.toList ++ r.data.toList)) := by
    rw [ByteArray.data_append, Array.toList_append, frame_list t e h]
    simp
  have hsz := frameS_len t e h
  have hsz2 : (frameS t e ++ r).size = (frameS t e).size + r.size := ByteArray.size_append
  have hd : (Lib.decDigits t.size).length = Lib.nDigits t.size := Lib.decDigits_length _
  have hp := Lib.nDigits_pos t.size
  have hlen : lenP 0 0 (frameS t e ++ r).data.toList = (t.size, Lib.nDigits t.size + 1, 0) := by
    rw [hL, lenP_dig _ _ (by omega), lenP, if_neg (by decide), if_neg]
    rintro (h0 | h0)
    · omega
    · exact h0 (by decide)
  constructor
  · unfold cutP
    rw [hlen]
    simp only [if_true]
    rw [if_neg (by omega)]
    have h1 : (frameS t e ++ r).extract (Lib.nDigits t.size + 1) (Lib.nDigits t.size + 1 + t.size) = t := by
      apply ByteArray.ext
      apply Array.ext'
      rw [Lib.extract_data, hL]
      rw [show Lib.nDigits t.size + 1 = (Lib.decDigits t.size ++ [58]).length by simp [hd]]
      rw [show Lib.decDigits t.size ++ 58 :: (t.data.toList ++ (e.data.toList ++ r.data.toList)) = (Lib.decDigits t.size ++ [58]) ++ (t.data.toList ++ (e.data.toList ++ r.data.toList)) by simp]
      rw [List.drop_left, Nat.add_sub_cancel_left]
      rw [show t.size = t.data.toList.length from rfl, List.take_left]
    rw [h1]
    congr 2
    omega
  · rw [Lib.extract_data, hL]
    rw [show (frameS t e).size - 1 = ((Lib.decDigits t.size ++ [58]) ++ t.data.toList).length by
      simp only [List.length_append, hd, List.length_singleton]
      show _ = _ + 1 + t.size
      omega]
    rw [show Lib.decDigits t.size ++ 58 :: (t.data.toList ++ (e.data.toList ++ r.data.toList)) = ((Lib.decDigits t.size ++ [58]) ++ t.data.toList) ++ (e.data.toList ++ r.data.toList) by simp]
    have hx : (frameS t e).size - ((Lib.decDigits t.size ++ [58]) ++ t.data.toList).length = e.data.toList.length := by
      simp only [List.length_append, hd, List.length_singleton]
      show (frameS t e).size - (Lib.nDigits t.size + 1 + t.size) = e.size
      omega
    rw [List.drop_left, hx, List.take_left]

/-- Get, at a number's frame. -/
theorem getP_num (d : Nat) (m : Int) (hm : ¬ m = 0) (t r : ByteArray) (h : t.size ≤ 9999999) : getP (d + 1) (frameS t ⟨#[35]⟩ ++ r) m = (match numP t with | some v => .ok ⟨1, v, ⟨#[]⟩, .nil, (frameS t ⟨#[35]⟩).size, 1⟩ | none => .error 1) := by
  obtain ⟨h1, h2⟩ := cut_frame t ⟨#[35]⟩ r h rfl
  unfold getP
  rw [h1]
  simp only [if_true, if_neg hm]
  rw [if_pos h2]
  all_goals (cases numP t <;> rfl)

theorem getP_str (d : Nat) (m : Int) (hm : ¬ m = 0) (t r : ByteArray) (h : t.size ≤ 9999999) : getP (d + 1) (frameS t ⟨#[44]⟩ ++ r) m = .ok ⟨2, 0, t, .nil, (frameS t ⟨#[44]⟩).size, 1⟩ := by
  obtain ⟨h1, h2⟩ := cut_frame t ⟨#[44]⟩ r h rfl
  unfold getP
  rw [h1]
  simp only [if_true, if_neg hm]
  rw [if_neg (by rw [h2]; decide), if_pos h2]

/-- What All tells. -/
def allR (t : ByteArray) : Except Nat G := match getR t with | .ok x => if x.b = t.size then .ok x else .error 1 | .error _ => .error 1

theorem append_none (t : ByteArray) : t ++ ⟨#[]⟩ = t := by
  apply ByteArray.ext
  rw [ByteArray.data_append]
  simp

theorem all_num (t : ByteArray) (h : t.size ≤ 9999999) : allR (frameS t ⟨#[35]⟩) = (match numP t with | some v => .ok ⟨1, v, ⟨#[]⟩, .nil, (frameS t ⟨#[35]⟩).size, 1⟩ | none => .error 1) := by
  have := getP_num 5 6000 (by decide) t ⟨#[]⟩ h
  rw [append_none] at this
  unfold allR getR
  rw [this]
  cases numP t with
  | none => rfl
  | some v => simp only [if_true]

theorem all_str (t : ByteArray) (h : t.size ≤ 9999999) : allR (frameS t ⟨#[44]⟩) = .ok ⟨2, 0, t, .nil, (frameS t ⟨#[44]⟩).size, 1⟩ := by
  have := getP_str 5 6000 (by decide) t ⟨#[]⟩ h
  rw [append_none] at this
  unfold allR getR
  rw [this]
  simp only [if_true]

end Go.Proofs.YtgjnllkbfjeihaaDoor
