/-
  Contracts of the program, and what they rest on.
-/
import Derived.Test.YtaacdggjkfmehaaGreatDoorM19
import Derived.Lib.ParseIntBTie
namespace Go.Proofs.YtaacdggjkfmehaaGreatDoor
open Go.RowKit
theorem nd_le : ∀ (d u : Nat), 1 ≤ d → u < 10 ^ d → Lib.nDigits u ≤ d
  | 0, _, h, _ => by omega
  | d + 1, u, _, h => by
    by_cases h0 : u < 10
    · rw [Lib.nDigits_small h0]; omega
    · rw [Lib.nDigits_big h0]
      rw [Nat.pow_succ] at h
      by_cases hd : d = 0
      · subst hd; simp at h; omega
      · have := nd_le d (u / 10) (by omega) (by omega)
        omega
theorem dig_toNat (d : Nat) (h : d < 10) : (UInt8.ofNat (48 + d)).toNat = 48 + d := by
  simp only [UInt8.toNat_ofNat']
  omega
theorem lenP_dig (l : List UInt8) : ∀ (u : Nat), u < 10000000 → lenP 0 0 (Lib.decDigits u ++ l) = lenP u (Lib.nDigits u) l := by
  intro u
  induction u using Nat.strongRecOn generalizing l with
  | _ u ih =>
    intro hu
    by_cases h : u < 10
    · rw [Lib.decDigits, dif_pos h, Lib.nDigits_small h]
      show lenP 0 0 (UInt8.ofNat (48 + u) :: l) = _
      have hd := dig_toNat u h
      rw [lenP, if_pos (by omega), if_neg (by omega), hd]
      congr 1
      omega
    · rw [Lib.decDigits, dif_neg h, Lib.nDigits_big h, List.append_assoc, ih (u / 10) (by omega) _ (by omega)]
      show lenP (u / 10) (Lib.nDigits (u / 10)) (UInt8.ofNat (48 + u % 10) :: l) = _
      have hd := dig_toNat (u % 10) (by omega)
      have hn := nd_le 6 (u / 10) (by omega) (by omega)
      rw [lenP, if_pos (by omega), if_neg (by omega), hd]
      congr 1
      omega
theorem parse_dig (l : List UInt8) : ∀ (u : Nat), u < 18446744073709551616 → Lib.parseUint10 0 (Lib.decDigits u ++ l) = Lib.parseUint10 u l := by
  intro u
  induction u using Nat.strongRecOn generalizing l with
  | _ u ih =>
    intro hu
    by_cases h : u < 10
    · rw [Lib.decDigits, dif_pos h]
      show Lib.parseUint10 0 (UInt8.ofNat (48 + u) :: l) = _
      have hd := dig_toNat u h
      rw [Lib.parseUint10, if_pos (by omega), if_neg (by omega), if_neg (by omega), hd]
      congr 1
      omega
    · rw [Lib.decDigits, dif_neg h, List.append_assoc, ih (u / 10) (by omega) _ (by omega)]
      show Lib.parseUint10 (u / 10) (UInt8.ofNat (48 + u % 10) :: l) = _
      have hd := dig_toNat (u % 10) (by omega)
      rw [Lib.parseUint10, if_pos (by omega), if_neg (by omega), if_neg (by omega), hd]
      congr 1
      omega
theorem dig_all : ∀ (u : Nat), ∀ c ∈ Lib.decDigits u, 48 ≤ c.toNat ∧ c.toNat ≤ 57 := by
  intro u
  induction u using Nat.strongRecOn with
  | _ u ih =>
    intro c hc
    by_cases h : u < 10
    · rw [Lib.decDigits, dif_pos h] at hc
      obtain rfl := List.mem_singleton.1 hc
      rw [dig_toNat u h]; omega
    · rw [Lib.decDigits, dif_neg h] at hc
      rcases List.mem_append.1 hc with hc | hc
      · exact ih (u / 10) (by omega) c hc
      · obtain rfl := List.mem_singleton.1 hc
        rw [dig_toNat _ (by omega)]; omega
theorem dig_head : ∀ (u : Nat), ∃ c r, Lib.decDigits u = c :: r ∧ (1 ≤ u → 49 ≤ c.toNat) ∧ 48 ≤ c.toNat ∧ c.toNat ≤ 57 ∧ (u = 0 → c = 48 ∧ r = []) := by
  intro u
  induction u using Nat.strongRecOn with
  | _ u ih =>
    by_cases h : u < 10
    · refine ⟨UInt8.ofNat (48 + u), [], by rw [Lib.decDigits, dif_pos h], ?_, ?_, ?_, ?_⟩
      · intro h1; rw [dig_toNat u h]; omega
      · rw [dig_toNat u h]; omega
      · rw [dig_toNat u h]; omega
      · rintro rfl; exact ⟨rfl, rfl⟩
    · obtain ⟨c, r, h1, h2, h3, h4, _⟩ := ih (u / 10) (by omega)
      refine ⟨c, r ++ [UInt8.ofNat (48 + u % 10)], by rw [Lib.decDigits, dif_neg h, h1]; rfl, fun _ => h2 (by omega), h3, h4, fun h0 => by omega⟩
theorem itoa_form (v : Int) : (∃ u : Nat, v = u ∧ Lib.itoa v = Lib.decDigits u) ∨ (∃ u : Nat, 1 ≤ u ∧ v = -(u : Int) ∧ Lib.itoa v = 45 :: Lib.decDigits u) := by
  by_cases h : v < 0
  · refine .inr ⟨v.natAbs, by omega, by omega, ?_⟩
    unfold Lib.itoa; rw [if_pos h]
  · refine .inl ⟨v.toNat, by omega, ?_⟩
    unfold Lib.itoa; rw [if_neg h]
theorem atoi_itoa (v : Int) (h0 : -9223372036854775808 ≤ v) (h1 : v ≤ 9223372036854775807) : Lib.atoiAll (Lib.itoa v) = .ok v := by
  rcases itoa_form v with ⟨u, rfl, hu⟩ | ⟨u, h, rfl, hu⟩
  · rw [hu]
    obtain ⟨c, r, hc, _, hc1, hc2, _⟩ := dig_head u
    have hp : Lib.parseMag (Lib.decDigits u) = .ok u := by
      unfold Lib.parseMag
      rw [if_neg (by rw [hc]; simp)]
      have := parse_dig [] u (by omega)
      rw [List.append_nil] at this
      rw [this]; rfl
    rw [hc] at hp ⊢
    unfold Lib.atoiAll
    simp only
    rw [if_neg (by omega), hp]
    simp only
    rw [if_neg (by omega), if_neg (by omega), if_neg (by omega)]
  · rw [hu]
    obtain ⟨c, r, hc, _, hc1, hc2, _⟩ := dig_head u
    have hp : Lib.parseMag (Lib.decDigits u) = .ok u := by
      unfold Lib.parseMag
      rw [if_neg (by rw [hc]; simp)]
      have := parse_dig [] u (by omega)
      rw [List.append_nil] at this
      rw [this]; rfl
    unfold Lib.atoiAll
    simp only
    rw [if_pos (.inr (by decide)), hp]
    simp only
    rw [if_neg (fun h => h.1 (by decide)), if_neg (by omega), if_pos (by decide)]
theorem decS_list (v : Int) : (decS v).data.toList = Lib.itoa v := by
  unfold decS
  rw [List.toList_toArray]
theorem numP_dec (v : Int) (h0 : -9223372036854775808 ≤ v) (h1 : v ≤ 9223372036854775807) : numP (decS v) = some v := by
  unfold numP
  rw [decS_list, Lib.parseIntB_64, atoi_itoa v h0 h1]
  simp only [if_true]
theorem itoa_len (v : Int) (h0 : -9223372036854775808 ≤ v) (h1 : v ≤ 9223372036854775807) : 1 ≤ (Lib.itoa v).length ∧ (Lib.itoa v).length ≤ 20 := by
  rcases itoa_form v with ⟨u, rfl, hu⟩ | ⟨u, h, rfl, hu⟩
  · rw [hu, Lib.decDigits_length]
    exact ⟨Lib.nDigits_pos u, Nat.le_succ_of_le (nd_le 19 u (by decide) (by omega))⟩
  · rw [hu, List.length_cons, Lib.decDigits_length]
    have := nd_le 19 u (by decide) (by omega)
    omega
theorem frame_list (t e : ByteArray) (h : t.size ≤ 9999999) : (frameS t e).data.toList = Lib.decDigits t.size ++ 58 :: (t.data.toList ++ e.data.toList) := by
  unfold frameS
  rw [if_pos h]
  simp only [ByteArray.data_append, Array.toList_append, decS_list]
  rw [Lib.itoa_nonneg]
  simp
theorem frameS_len (t e : ByteArray) (h : t.size ≤ 9999999) : (frameS t e).size = Lib.nDigits t.size + 1 + t.size + e.size := by
  show (frameS t e).data.size = _
  rw [← Array.length_toList, frame_list t e h]
  simp only [List.length_append, List.length_cons, Lib.decDigits_length, Array.length_toList]
  show _ + (t.size + e.size + 1) = _
  omega
theorem cut_frame (t e r : ByteArray) (h : t.size ≤ 9999999) (he : e.size = 1) :
    cutP (frameS t e ++ r) = (t, (frameS t e).size, 0) ∧ ((frameS t e ++ r).extract ((frameS t e).size - 1) (frameS t e).size).data.toList = e.data.toList := by
  have hL : (frameS t e ++ r).data.toList = Lib.decDigits t.size ++ 58 :: (t.data.toList ++ (e.data.toList ++ r.data.toList)) := by
    rw [ByteArray.data_append, Array.toList_append, frame_list t e h]
    simp
  have hsz := frameS_len t e h
  have hsz2 : (frameS t e ++ r).size = (frameS t e).size + r.size := ByteArray.size_append
  have hd : (Lib.decDigits t.size).length = Lib.nDigits t.size := Lib.decDigits_length _
  have hp := Lib.nDigits_pos t.size
  have hlen : lenP 0 0 (frameS t e ++ r).data.toList = (t.size, Lib.nDigits t.size + 1, 0) := by
    rw [hL, lenP_dig _ _ (by omega), lenP, if_neg (by decide), if_neg]
    rintro (h0 | h0)
    · omega
    · exact h0 (by decide)
  constructor
  · unfold cutP
    rw [hlen]
    simp only [if_true]
    rw [if_neg (by omega)]
    have h1 : (frameS t e ++ r).extract (Lib.nDigits t.size + 1) (Lib.nDigits t.size + 1 + t.size) = t := by
      apply ByteArray.ext
      apply Array.ext'
      rw [Lib.extract_data, hL]
      rw [show Lib.nDigits t.size + 1 = (Lib.decDigits t.size ++ [58]).length by simp [hd]]
      rw [show Lib.decDigits t.size ++ 58 :: (t.data.toList ++ (e.data.toList ++ r.data.toList)) = (Lib.decDigits t.size ++ [58]) ++ (t.data.toList ++ (e.data.toList ++ r.data.toList)) by simp]
      rw [List.drop_left, Nat.add_sub_cancel_left]
      rw [show t.size = t.data.toList.length from rfl, List.take_left]
    rw [h1]
    congr 2
    omega
  · rw [Lib.extract_data, hL]
    rw [show (frameS t e).size - 1 = ((Lib.decDigits t.size ++ [58]) ++ t.data.toList).length by
      simp only [List.length_append, hd, List.length_singleton]
      show _ = _ + 1 + t.size
      omega]
    rw [show Lib.decDigits t.size ++ 58 :: (t.data.toList ++ (e.data.toList ++ r.data.toList)) = ((Lib.decDigits t.size ++ [58]) ++ t.data.toList) ++ (e.data.toList ++ r.data.toList) by simp]
    have hx : (frameS t e).size - ((Lib.decDigits t.size ++ [58]) ++ t.data.toList).length = e.data.toList.length := by
      simp only [List.length_append, hd, List.length_singleton]
      show (frameS t e).size - (Lib.nDigits t.size + 1 + t.size) = e.size
      omega
    rw [List.drop_left, hx, List.take_left]
theorem getP_num (d : Nat) (m : Int) (hm : ¬ m = 0) (t r : ByteArray) (h : t.size ≤ 9999999) : getP (d + 1) (frameS t ⟨#[35]⟩ ++ r) m = (match numP t with | some v => .ok ⟨1, v, ⟨#[]⟩, .nil, (frameS t ⟨#[35]⟩).size, 1⟩ | none => .error 1) := by
  obtain ⟨h1, h2⟩ := cut_frame t ⟨#[35]⟩ r h rfl
  unfold getP
  rw [h1]
  simp only [if_true, if_neg hm]
  rw [if_pos h2]
  all_goals (cases numP t <;> rfl)
theorem getP_str (d : Nat) (m : Int) (hm : ¬ m = 0) (t r : ByteArray) (h : t.size ≤ 9999999) : getP (d + 1) (frameS t ⟨#[44]⟩ ++ r) m = .ok ⟨2, 0, t, .nil, (frameS t ⟨#[44]⟩).size, 1⟩ := by
  obtain ⟨h1, h2⟩ := cut_frame t ⟨#[44]⟩ r h rfl
  unfold getP
  rw [h1]
  simp only [if_true, if_neg hm]
  rw [if_neg (by rw [h2]; decide), if_pos h2]
def allR (t : ByteArray) : Except Nat G := match getR t with | .ok x => if x.b = t.size then .ok x else .error 1 | .error _ => .error 1
theorem append_none (t : ByteArray) : t ++ ⟨#[]⟩ = t := by
  apply ByteArray.ext
  rw [ByteArray.data_append]
  simp
end Go.Proofs.YtaacdggjkfmehaaGreatDoor
namespace Go.Proofs.YtaacdggjkfmehaaGreatDoor
open Go.RowKit
theorem F.len_zero {l : F} (h : l.len = 0) : l = .nil := by
  cases l with
  | nil => rfl
  | cons => simp only [F.len] at h; omega
theorem frameS_big {t e : ByteArray} (h : ¬ (frameS t e).size = 0) : t.size ≤ 9999999 := by
  unfold frameS at h
  by_cases hs : t.size ≤ 9999999
  · exact hs
  · rw [if_neg hs] at h
    exact absurd rfl h
theorem extract_app (a b : ByteArray) : (a ++ b).extract a.size (a ++ b).size = b := by
  apply ByteArray.ext
  apply Array.ext'
  rw [Lib.extract_data, ByteArray.data_append, Array.toList_append, ByteArray.size_append]
  rw [show a.size = a.data.toList.length from rfl, List.drop_left, Nat.add_sub_cancel_left]
  exact List.take_length
theorem getP_lst (d : Nat) (m : Int) (hm : ¬ m = 0) (t r : ByteArray) (h : t.size ≤ 9999999) : getP (d + 1) (frameS t ⟨#[93]⟩ ++ r) m = (match itemsP (getP d) (m - 1) (t.size + 1) t 0 with | some (l, z) => .ok ⟨3, 0, ⟨#[]⟩, l, (frameS t ⟨#[93]⟩).size, 1 + z⟩ | none => .error 1) := by
  obtain ⟨h1, h2⟩ := cut_frame t ⟨#[93]⟩ r h rfl
  unfold getP
  rw [h1]
  simp only [if_true, if_neg hm]
  rw [if_neg (by rw [h2]; decide), if_neg (by rw [h2]; decide), if_pos h2]
  all_goals (generalize itemsP (getP d) (m - 1) (t.size + 1) t 0 = q; rcases q with _ | ⟨l, z⟩ <;> rfl)
def TripQ (k n : Int) (s : ByteArray) (l : F) : Prop := ∀ (d : Nat) (m : Int) (r : ByteArray), vmayB k n s l d m = true → (-9223372036854775808 ≤ n ∧ n ≤ 9223372036854775807) → l.wf → ¬ (putV k n s l).size = 0 →
  getP d (putV k n s l ++ r) m = .ok ⟨k, n, s, l, (putV k n s l).size, 1 + l.cnt⟩
theorem isEmpty_eq {s : ByteArray} (h : s.toList.isEmpty = true) : s = ⟨#[]⟩ := by
  rw [ByteArray.toList_eq, List.isEmpty_iff] at h
  apply empty_of_size
  show s.data.size = 0
  rw [← Array.length_toList, h]
  rfl
theorem items_trip (d : Nat) (m : Int) : ∀ (g : F) (acc T : ByteArray), g.All TripQ → g.wf → g.ok = true → g.dep ≤ d → putF g acc = some T →
    ∃ R : ByteArray, T = acc ++ R ∧ ∀ (n f : Nat), (n : Int) + g.cnt ≤ m → R.size < f → itemsP (getP d) m f R n = some (g, n + g.cnt)
  | .nil, acc, T, _, _, _, _, hp => by
    cases hp
    refine ⟨⟨#[]⟩, (append_none _).symm, fun n f _ hf => ?_⟩
    obtain ⟨f, rfl⟩ : ∃ f', f = f' + 1 := ⟨f - 1, by omega⟩
    rfl
  | .cons k n s l r, acc, T, hQ, hw, hok, hd, hp => by
    rw [putF_cons] at hp
    obtain ⟨hq, hQr⟩ := hQ
    obtain ⟨hwn, hwl, hwr⟩ := hw
    simp only [F.ok, Bool.and_eq_true] at hok
    simp only [F.dep] at hd
    by_cases hbad : (putV k n s l).size = 0 ∨ 9999999 < acc.size + (putV k n s l).size
    · rw [if_pos hbad] at hp; cases hp
    · rw [if_neg hbad] at hp
      obtain ⟨R, hT, hR⟩ := items_trip d m r _ _ hQr hwr hok.2 (by omega) hp
      refine ⟨putV k n s l ++ R, by rw [hT, ByteArray.append_assoc], fun c f hc hf => ?_⟩
      simp only [F.cnt] at hc
      rw [ByteArray.size_append] at hf
      obtain ⟨f, rfl⟩ : ∃ f', f = f' + 1 := ⟨f - 1, by omega⟩
      rw [step_arm (by rw [ByteArray.size_append]; omega)]
      have hm : vmayB k n s l d (m - c) = true := by
        unfold vmayB
        simp only [Bool.and_eq_true, decide_eq_true_eq]
        exact ⟨⟨⟨hok.1.1, hok.1.2⟩, by omega⟩, by omega⟩
      rw [hq d (m - c) R hm hwn hwl (by omega)]
      simp only
      rw [extract_app, hR (c + (1 + l.cnt)) f (by omega) (by omega)]
      simp only [F.cnt]
      congr 2
      omega
theorem trip_q (k n : Int) (s : ByteArray) (l : F) (hl : l.All TripQ) : TripQ k n s l := by
  intro d m r hm hn hwf hne
  unfold vmayB at hm
  simp only [Bool.and_eq_true, decide_eq_true_eq] at hm
  obtain ⟨⟨⟨hp, hok⟩, hd⟩, hc⟩ := hm
  obtain ⟨d, rfl⟩ : ∃ d', d = d' + 1 := ⟨d - 1, by omega⟩
  have hm0 : ¬ m = 0 := by omega
  unfold pureB at hp
  unfold putV at hne ⊢
  by_cases h1 : k = 1
  · subst h1
    rw [if_pos rfl] at hp hne ⊢
    simp only [Bool.and_eq_true, decide_eq_true_eq] at hp
    obtain rfl := F.len_zero hp.2
    obtain rfl := isEmpty_eq hp.1
    rw [getP_num d m hm0 _ r (frameS_big hne), numP_dec n hn.1 hn.2]
    simp only [F.cnt]
  rw [if_neg h1] at hp hne ⊢
  by_cases h2 : k = 2
  · subst h2
    rw [if_pos rfl] at hp hne ⊢
    simp only [Bool.and_eq_true, decide_eq_true_eq] at hp
    obtain rfl := F.len_zero hp.2
    obtain rfl := hp.1
    rw [getP_str d m hm0 _ r (frameS_big hne)]
    simp only [F.cnt]
  rw [if_neg h2] at hp hne ⊢
  by_cases h3 : k = 3
  · subst h3
    rw [if_pos rfl] at hp
    simp only [Bool.and_eq_true, decide_eq_true_eq] at hp
    obtain rfl := hp.1
    obtain rfl := isEmpty_eq hp.2
    cases ht : putF l ⟨#[]⟩ with
    | none =>
      rw [ht] at hne
      exact absurd rfl hne
    | some t =>
      rw [ht] at hne
      simp only at hne ⊢
      obtain ⟨R, hT, hR⟩ := items_trip d (m - 1) l _ _ hl hwf hok (by omega) ht
      have hTR : t = R := by
        rw [hT]
        apply ByteArray.ext
        rw [ByteArray.data_append]
        simp
      subst hTR
      rw [getP_lst d m hm0 _ r (frameS_big hne), hR 0 (t.size + 1) (by omega) (by omega)]
      simp only [Nat.zero_add]
  · rw [if_neg h3] at hp
    cases hp
theorem trip_all (f : F) : f.All TripQ := F.all_of trip_q f
theorem trip_p (k n : Int) (s : ByteArray) (l : F) (hm : vmay k n s l = true) (hn : -9223372036854775808 ≤ n ∧ n ≤ 9223372036854775807) (hw : l.wf) (hne : ¬ (putV k n s l).size = 0) (r : ByteArray) :
    getR (putV k n s l ++ r) = .ok ⟨k, n, s, l, (putV k n s l).size, 1 + l.cnt⟩ :=
  trip_q k n s l (trip_all l) 6 6000 r hm hn hw hne
end Go.Proofs.YtaacdggjkfmehaaGreatDoor
namespace Go.Proofs.YtaacdggjkfmehaaGreatDoor
open Go.RowKit
def AllV (r : Except Nat G) (w : World) (e : Ending) (w' : World) : Prop :=
  Below w.heap.size w w' ∧
  match r with
  | .error _ => e = .returned (.tuple #[.agg #[.int .i64 0, .int .i64 0, .string ⟨#[]⟩, .slice none 0 0], .int .i64 1])
  | .ok x => ∃ ad cap, e = .returned (.tuple #[.agg #[.int .i64 x.k, .int .i64 x.n, .string x.s, .slice ad x.l.len (x.l.len + cap)], .int .i64 0]) ∧ RepG w' (fun b => w.heap.size ≤ b) ad x.l
set_option maxRecDepth 100000 in
set_option maxHeartbeats 4000000 in
theorem all_bad (t : ByteArray) (w : World) (k n b er : Int) (s : ByteArray) (len : Nat) (hr : ¬ er = 0 ∨ ¬ b = (t.size : Int))
    (H : Calls Tryz.prog 94 #[.string t] (w.alloc (.cells #[.int .i64 0, .int .i64 0, .string ⟨#[]⟩, .slice none 0 0] 121)) fun e w' => (∃ ad cap, e = .returned (.tuple #[.agg #[.int .i64 k, .int .i64 n, .string s, .slice ad len cap], .int .i64 b, .int .i64 er])) ∧ Below (w.alloc (.cells #[.int .i64 0, .int .i64 0, .string ⟨#[]⟩, .slice none 0 0] 121)).heap.size (w.alloc (.cells #[.int .i64 0, .int .i64 0, .string ⟨#[]⟩, .slice none 0 0] 121)) w') :
    Calls Tryz.prog 80 #[.string t] w fun e w' => e = .returned (.tuple #[.agg #[.int .i64 0, .int .i64 0, .string ⟨#[]⟩, .slice none 0 0], .int .i64 1]) ∧ Below w.heap.size w w' := by
  have HB0 : Hid (Below w.heap.size w (w.alloc (.cells #[.int .i64 0, .int .i64 0, .string ⟨#[]⟩, .slice none 0 0] 121))) := Lib.hid ((Below.refl _ _).alloc (Nat.le_refl _) _)
  have H' := Lib.hid H
  clear H
  by_cases he : er = 0
  · subst he
    have hb : (b != (t.size : Int)) = true := by rw [bne_iff_ne]; rcases hr with h | h; exact absurd rfl h; exact h
    clear hr
    go_enter Tryz.func80, Tryz.ntmps80
    go_wp2_with fail
    refine H'.out.mono ?_
    rintro _ w2 ⟨⟨ad, cap, rfl⟩, hb2⟩
    have hlt : w.heap.size < w2.heap.size := by have := hb2.size; simp at this; omega
    have c0 : w2.cell? ⟨w.heap.size, 0, none⟩ = some (.int .i64 0) := by rw [hb2.cell (by simp)]; go_simp
    have z0 : w2.frozen? ⟨w.heap.size, 0, none⟩ = false := by rw [hb2.frozen (by simp)]; go_simp
    have c1 : w2.cell? ⟨w.heap.size, 1, none⟩ = some (.int .i64 0) := by rw [hb2.cell (by simp)]; go_simp
    have z1 : w2.frozen? ⟨w.heap.size, 1, none⟩ = false := by rw [hb2.frozen (by simp)]; go_simp
    have c2 : w2.cell? ⟨w.heap.size, 2, none⟩ = some (.string ⟨#[]⟩) := by rw [hb2.cell (by simp)]; go_simp
    have z2 : w2.frozen? ⟨w.heap.size, 2, none⟩ = false := by rw [hb2.frozen (by simp)]; go_simp
    have c3 : w2.cell? ⟨w.heap.size, 3, none⟩ = some (.slice none 0 0) := by rw [hb2.cell (by simp)]; go_simp
    have z3 : w2.frozen? ⟨w.heap.size, 3, none⟩ = false := by rw [hb2.frozen (by simp)]; go_simp
    have HB2 := Lib.hid (HB0.out.trans (hb2.mono HB0.out.size))
    have hne : ¬ w2.heap.size = w.heap.size := by omega
    have hne' : ¬ w.heap.size = w2.heap.size := by omega
    clear hb2
    go_wp2_with fail
    exact bodyPost_ret (v := .tuple #[.agg #[.int .i64 0, .int .i64 0, .string ⟨#[]⟩, .slice none 0 0], .int .i64 1]) (by simp [results, Tryz.results80, go_sem, c0, c1, c2, c3, hlt]) rfl ⟨rfl, (((((HB2.out.setCell (by simp) _).setCell (by simp) _).setCell (by simp) _).setCell (by simp) _).alloc (by simp; omega) _)⟩
  · have hb : (er != 0) = true := by rw [bne_iff_ne]; exact he
    clear hr he
    go_enter Tryz.func80, Tryz.ntmps80
    go_wp2_with fail
    refine H'.out.mono ?_
    rintro _ w2 ⟨⟨ad, cap, rfl⟩, hb2⟩
    have hlt : w.heap.size < w2.heap.size := by have := hb2.size; simp at this; omega
    have c0 : w2.cell? ⟨w.heap.size, 0, none⟩ = some (.int .i64 0) := by rw [hb2.cell (by simp)]; go_simp
    have z0 : w2.frozen? ⟨w.heap.size, 0, none⟩ = false := by rw [hb2.frozen (by simp)]; go_simp
    have c1 : w2.cell? ⟨w.heap.size, 1, none⟩ = some (.int .i64 0) := by rw [hb2.cell (by simp)]; go_simp
    have z1 : w2.frozen? ⟨w.heap.size, 1, none⟩ = false := by rw [hb2.frozen (by simp)]; go_simp
    have c2 : w2.cell? ⟨w.heap.size, 2, none⟩ = some (.string ⟨#[]⟩) := by rw [hb2.cell (by simp)]; go_simp
    have z2 : w2.frozen? ⟨w.heap.size, 2, none⟩ = false := by rw [hb2.frozen (by simp)]; go_simp
    have c3 : w2.cell? ⟨w.heap.size, 3, none⟩ = some (.slice none 0 0) := by rw [hb2.cell (by simp)]; go_simp
    have z3 : w2.frozen? ⟨w.heap.size, 3, none⟩ = false := by rw [hb2.frozen (by simp)]; go_simp
    have HB2 := Lib.hid (HB0.out.trans (hb2.mono HB0.out.size))
    have hne : ¬ w2.heap.size = w.heap.size := by omega
    have hne' : ¬ w.heap.size = w2.heap.size := by omega
    clear hb2
    go_wp2_with fail
    exact bodyPost_ret (v := .tuple #[.agg #[.int .i64 0, .int .i64 0, .string ⟨#[]⟩, .slice none 0 0], .int .i64 1]) (by simp [results, Tryz.results80, go_sem, c0, c1, c2, c3, hlt]) rfl ⟨rfl, (((((HB2.out.setCell (by simp) _).setCell (by simp) _).setCell (by simp) _).setCell (by simp) _).alloc (by simp; omega) _)⟩
set_option maxRecDepth 100000 in
set_option maxHeartbeats 4000000 in
theorem all_good (t : ByteArray) (w : World) (k n b : Int) (s : ByteArray) (len : Nat) (hb : b = (t.size : Int)) (P : Option Addr → Nat → World → Prop)
    (hP : ∀ ad cap w1 w2, P ad cap w1 → (∀ j, j ≠ w.heap.size → j < w1.heap.size → w2.heap[j]? = w1.heap[j]?) → P ad cap w2)
    (H : Calls Tryz.prog 94 #[.string t] (w.alloc (.cells #[.int .i64 0, .int .i64 0, .string ⟨#[]⟩, .slice none 0 0] 121)) fun e w' => (∃ ad cap, e = .returned (.tuple #[.agg #[.int .i64 k, .int .i64 n, .string s, .slice ad len cap], .int .i64 b, .int .i64 0]) ∧ P ad cap w') ∧ Below (w.alloc (.cells #[.int .i64 0, .int .i64 0, .string ⟨#[]⟩, .slice none 0 0] 121)).heap.size (w.alloc (.cells #[.int .i64 0, .int .i64 0, .string ⟨#[]⟩, .slice none 0 0] 121)) w') :
    Calls Tryz.prog 80 #[.string t] w fun e w' => (∃ ad cap, e = .returned (.tuple #[.agg #[.int .i64 k, .int .i64 n, .string s, .slice ad len cap], .int .i64 0]) ∧ P ad cap w') ∧ Below w.heap.size w w' := by
  have HB0 : Hid (Below w.heap.size w (w.alloc (.cells #[.int .i64 0, .int .i64 0, .string ⟨#[]⟩, .slice none 0 0] 121))) := Lib.hid ((Below.refl _ _).alloc (Nat.le_refl _) _)
  have H' := Lib.hid H
  have HP := Lib.hid hP
  clear H hP
  have hbe : (b != (t.size : Int)) = false := by rw [bne_eq_false_iff_eq]; exact hb
  clear hb
  go_enter Tryz.func80, Tryz.ntmps80
  go_wp2_with fail
  refine H'.out.mono ?_
  rintro _ w2 ⟨⟨ad, cap, rfl, hp2⟩, hb2⟩
  have HPP := Lib.hid hp2
  have hlt : w.heap.size < w2.heap.size := by have := hb2.size; simp at this; omega
  have c0 : w2.cell? ⟨w.heap.size, 0, none⟩ = some (.int .i64 0) := by rw [hb2.cell (by simp)]; go_simp
  have z0 : w2.frozen? ⟨w.heap.size, 0, none⟩ = false := by rw [hb2.frozen (by simp)]; go_simp
  have c1 : w2.cell? ⟨w.heap.size, 1, none⟩ = some (.int .i64 0) := by rw [hb2.cell (by simp)]; go_simp
  have z1 : w2.frozen? ⟨w.heap.size, 1, none⟩ = false := by rw [hb2.frozen (by simp)]; go_simp
  have c2 : w2.cell? ⟨w.heap.size, 2, none⟩ = some (.string ⟨#[]⟩) := by rw [hb2.cell (by simp)]; go_simp
  have z2 : w2.frozen? ⟨w.heap.size, 2, none⟩ = false := by rw [hb2.frozen (by simp)]; go_simp
  have c3 : w2.cell? ⟨w.heap.size, 3, none⟩ = some (.slice none 0 0) := by rw [hb2.cell (by simp)]; go_simp
  have z3 : w2.frozen? ⟨w.heap.size, 3, none⟩ = false := by rw [hb2.frozen (by simp)]; go_simp
  have HB2 := Lib.hid (HB0.out.trans (hb2.mono HB0.out.size))
  have hne : ¬ w2.heap.size = w.heap.size := by omega
  have hne' : ¬ w.heap.size = w2.heap.size := by omega
  clear hb2 hp2
  go_wp2_with fail
  have d0 : (((((w2.setCell ⟨w.heap.size, 0, none⟩ (.int .i64 k)).setCell ⟨w.heap.size, 1, none⟩ (.int .i64 n)).setCell ⟨w.heap.size, 2, none⟩ (.string s)).setCell ⟨w.heap.size, 3, none⟩ (.slice ad len cap)).alloc (.cells #[.int .i64 k, .int .i64 n, .string s, .slice ad len cap] 121)).cell? ⟨w.heap.size, 0, none⟩ = some (.int .i64 k) := by go_simp
  have d1 : (((((w2.setCell ⟨w.heap.size, 0, none⟩ (.int .i64 k)).setCell ⟨w.heap.size, 1, none⟩ (.int .i64 n)).setCell ⟨w.heap.size, 2, none⟩ (.string s)).setCell ⟨w.heap.size, 3, none⟩ (.slice ad len cap)).alloc (.cells #[.int .i64 k, .int .i64 n, .string s, .slice ad len cap] 121)).cell? ⟨w.heap.size, 1, none⟩ = some (.int .i64 n) := by go_simp
  have d2 : (((((w2.setCell ⟨w.heap.size, 0, none⟩ (.int .i64 k)).setCell ⟨w.heap.size, 1, none⟩ (.int .i64 n)).setCell ⟨w.heap.size, 2, none⟩ (.string s)).setCell ⟨w.heap.size, 3, none⟩ (.slice ad len cap)).alloc (.cells #[.int .i64 k, .int .i64 n, .string s, .slice ad len cap] 121)).cell? ⟨w.heap.size, 2, none⟩ = some (.string s) := by go_simp
  have d3 : (((((w2.setCell ⟨w.heap.size, 0, none⟩ (.int .i64 k)).setCell ⟨w.heap.size, 1, none⟩ (.int .i64 n)).setCell ⟨w.heap.size, 2, none⟩ (.string s)).setCell ⟨w.heap.size, 3, none⟩ (.slice ad len cap)).alloc (.cells #[.int .i64 k, .int .i64 n, .string s, .slice ad len cap] 121)).cell? ⟨w.heap.size, 3, none⟩ = some (.slice ad len cap) := by go_simp
  refine bodyPost_ret (v := .tuple #[.agg #[.int .i64 k, .int .i64 n, .string s, .slice ad len cap], .int .i64 0]) (by simp [results, Tryz.results80, go_sem, d0, d1, d2, d3]) rfl ⟨⟨ad, cap, rfl, ?_⟩, (((((HB2.out.setCell (by simp) _).setCell (by simp) _).setCell (by simp) _).setCell (by simp) _).alloc (by simp; omega) _)⟩
  refine HP.out _ _ _ _ HPP.out (fun j hj hl => ?_)
  rw [heap_alloc_old _ _ (by simpa using hl)]
  rw [heap_setCell_other _ _ _ _ hj, heap_setCell_other _ _ _ _ hj, heap_setCell_other _ _ _ _ hj, heap_setCell_other _ _ _ _ hj]
theorem All_p (t : ByteArray) (w : World) (hs : t.size ≤ 9223372036854775807) (hlib : LibAt w) :
    Calls Tryz.prog 80 #[.string t] w (AllV (allR t) w) := by
  have hb0 : Below w.heap.size w (w.alloc (.cells #[.int .i64 0, .int .i64 0, .string ⟨#[]⟩, .slice none 0 0] 121)) := (Below.refl _ _).alloc (Nat.le_refl _) _
  have H := Get_p t (w.alloc (.cells #[.int .i64 0, .int .i64 0, .string ⟨#[]⟩, .slice none 0 0] 121)) hs (hlib.below hb0)
  unfold allR
  have he : ∀ e, getR t = .error e → e = 1 ∨ e = 2 := fun e h => getP_err 6 t 6000 e h
  generalize getR t = r at *
  unfold GetV at H
  cases r with
  | error e =>
    have := he e rfl
    refine (all_bad t w 0 0 0 e ⟨#[]⟩ 0 (.inl (by omega)) (H.mono fun x w' h => ⟨⟨none, 0, h.2⟩, h.1⟩)).mono ?_
    rintro x w' ⟨rfl, h⟩
    exact ⟨h, rfl⟩
  | ok x =>
    simp only
    by_cases hb : x.b = t.size
    · rw [if_pos hb]
      refine (all_good t w x.k x.n x.b x.s x.l.len (by omega) (fun ad cap w' => x.l.len ≤ cap ∧ RepG w' (fun b => w.heap.size < b) ad x.l) (fun ad cap w1 w2 h hh => ⟨h.1, h.2.to (fun b hb hl => ⟨hb, hh b (by omega) hl⟩)⟩) (H.mono fun e w' ⟨h1, ad, cap, h2, h3⟩ => ⟨⟨ad, x.l.len + cap, h2, Nat.le_add_right _ _, h3.to (fun b hb _ => ⟨by simp at hb; omega, rfl⟩)⟩, h1⟩)).mono ?_
      rintro e w' ⟨⟨ad, cap, rfl, hc, hg⟩, h1⟩
      exact ⟨h1, ad, cap - x.l.len, by rw [Nat.add_sub_cancel' hc], hg.to (fun b hb _ => ⟨by omega, rfl⟩)⟩
    · rw [if_neg hb]
      refine (all_bad t w x.k x.n x.b 0 x.s x.l.len (.inr (by omega)) (H.mono fun e w' ⟨h1, ad, cap, h2, h3⟩ => ⟨⟨ad, _, h2⟩, h1⟩)).mono ?_
      rintro e w' ⟨rfl, h⟩
      exact ⟨h, rfl⟩
end Go.Proofs.YtaacdggjkfmehaaGreatDoor
