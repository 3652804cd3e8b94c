/-
  A value's text is read as that value, whatever stands behind it.
-/
import Derived.Test.YtgjnllkbfjeihaaDoorDec
namespace Go.Proofs.YtgjnllkbfjeihaaDoor
open Go.RowKit

theorem F.len_zero {l : F} (h : l.len = 0) : l = .nil := by
  cases l with
  | nil => rfl
  | cons => simp only [F.len] at h; omega

theorem frameS_big {t e : ByteArray} (h : ¬ (frameS t e).size = 0) : t.size ≤ 9999999 := by
  unfold frameS at h
  by_cases hs : t.size ≤ 9999999
  · exact hs
  · rw [if_neg hs] at h
    exact absurd rfl h

theorem extract_app (a b : ByteArray) : (a ++ b).extract a.size (a ++ b).size = b := by
  apply ByteArray.ext
  apply Array.ext'
  rw [Lib.extract_data, ByteArray.data_append, Array.toList_append, ByteArray.size_append]
  rw [show a.size = a.data.toList.length from rfl, List.drop_left, Nat.add_sub_cancel_left]
  exact List.take_length

theorem getP_lst (d : Nat) (m : Int) (hm : ¬ m = 0) (t r : ByteArray) (h : t.size ≤ 9999999) : getP (d + 1) (frameS t ⟨#[93]⟩ ++ r) m = (match itemsP (getP d) (m - 1) (t.size + 1) t 0 with | some (l, z) => .ok ⟨3, 0, ⟨#[]⟩, l, (frameS t ⟨#[93]⟩).size, 1 + z⟩ | none => .error 1) := by
  obtain ⟨h1, h2⟩ := cut_frame t ⟨#[93]⟩ r h rfl
  unfold getP
  rw [h1]
  simp only [if_true, if_neg hm]
  rw [if_neg (by rw [h2]; decide), if_neg (by rw [h2]; decide), if_pos h2]
  all_goals (generalize itemsP (getP d) (m - 1) (t.size + 1) t 0 = q; rcases q with _ | ⟨l, z⟩ <;> rfl)

/-- What is known of a value's text. -/
def TripQ (k n : Int) (s : ByteArray) (l : F) : Prop := ∀ (d : Nat) (m : Int) (r : ByteArray), vmayB k n s l d m = true → (-9223372036854775808 ≤ n ∧ n ≤ 9223372036854775807) → l.wf → ¬ (putV k n s l).size = 0 →
  getP d (putV k n s l ++ r) m = .ok ⟨k, n, s, l, (putV k n s l).size, 1 + l.cnt⟩

theorem isEmpty_eq {s : ByteArray} (h : s.toList.isEmpty = true) : s = ⟨#[]⟩ := by
  rw [ByteArray.toList_eq, List.isEmpty_iff] at h
  apply empty_of_size
  show s.data.size = 0
  rw [← Array.length_toList, h]
  rfl

/-- The values of a list's text. -/
theorem items_trip (d : Nat) (m : Int) : ∀ (g : F) (acc T : ByteArray), g.All TripQ → g.wf → g.ok = true → g.dep ≤ d → putF g acc = some T →
    ∃ R : ByteArray, T = acc ++ R ∧ ∀ (n f : Nat), (n : Int) + g.cnt ≤ m → R.size < f → itemsP (getP d) m f R n = some (g, n + g.cnt)
  | .nil, acc, T, _, _, _, _, hp => by
    cases hp
    refine ⟨⟨#[]⟩, (append_none _).symm, fun n f _ hf => ?_⟩
    obtain ⟨f, rfl⟩ : ∃ f', f = f' + 1 := ⟨f - 1, by omega⟩
    rfl
  | .cons k n s l r, acc, T, hQ, hw, hok, hd, hp => by
    rw [putF_cons] at hp
    obtain ⟨hq, hQr⟩ := hQ
    obtain ⟨hwn, hwl, hwr⟩ := hw
    simp only [F.ok, Bool.and_eq_true] at hok
    simp only [F.dep] at hd
    by_cases hbad : (putV k n s l).size = 0 ∨ 9999999 < acc.size + (putV k n s l).size
    · rw [if_pos hbad] at hp; cases hp
    · rw [if_neg hbad] at hp
      obtain ⟨R, hT, hR⟩ := items_trip d m r _ _ hQr hwr hok.2 (by omega) hp
      refine ⟨putV k n s l ++ R, by rw [hT, ByteArray.append_assoc], fun c f hc hf => ?_⟩
      simp only [F.cnt] at hc
      rw [ByteArray.size_append] at hf
      obtain ⟨f, rfl⟩ : ∃ f', f = f' + 1 := ⟨f - 1, by omega⟩
      rw [step_arm (by rw [ByteArray.size_append]; omega)]
      have hm : vmayB k n s l d (m - c) = true := by
        unfold vmayB
        simp only [Bool.and_eq_true, decide_eq_true_eq]
        exact ⟨⟨⟨hok.1.1, hok.1.2⟩, by omega⟩, by omega⟩
      rw [hq d (m - c) R hm hwn hwl (by omega)]
      simp only
      rw [extract_app, hR (c + (1 + l.cnt)) f (by omega) (by omega)]
      simp only [F.cnt]
      congr 2
      omega

theorem trip_q (k n : Int) (s : ByteArray) (l : F) (hl : l.All TripQ) : TripQ k n s l := by
  intro d m r hm hn hwf hne
  unfold vmayB at hm
  simp only [Bool.and_eq_true, decide_eq_true_eq] at hm
  obtain ⟨⟨⟨hp, hok⟩, hd⟩, hc⟩ := hm
  obtain ⟨d, rfl⟩ : ∃ d', d = d' + 1 := ⟨d - 1, by omega⟩
  have hm0 : ¬ m = 0 := by omega
  unfold pureB at hp
  unfold putV at hne ⊢
  by_cases h1 : k = 1
  · subst h1
    rw [if_pos rfl] at hp hne ⊢
    simp only [Bool.and_eq_true, decide_eq_true_eq] at hp
    obtain rfl := F.len_zero hp.2
    obtain rfl := isEmpty_eq hp.1
    rw [getP_num d m hm0 _ r (frameS_big hne), numP_dec n hn.1 hn.2]
    simp only [F.cnt]
  rw [if_neg h1] at hp hne ⊢
  by_cases h2 : k = 2
  · subst h2
    rw [if_pos rfl] at hp hne ⊢
    simp only [Bool.and_eq_true, decide_eq_true_eq] at hp
    obtain rfl := F.len_zero hp.2
    obtain rfl := hp.1
    rw [getP_str d m hm0 _ r (frameS_big hne)]
    simp only [F.cnt]
  rw [if_neg h2] at hp hne ⊢
  by_cases h3 : k = 3
  · subst h3
    rw [if_pos rfl] at hp
    simp only [Bool.and_eq_true, decide_eq_true_eq] at hp
    obtain rfl := hp.1
    obtain rfl := isEmpty_eq hp.2
    cases ht : putF l ⟨#[]⟩ with
    | none =>
      rw [ht] at hne
      exact absurd rfl hne
    | some t =>
      rw [ht] at hne
      simp only at hne ⊢
      obtain ⟨R, hT, hR⟩ := items_trip d (m - 1) l _ _ hl hwf hok (by omega) ht
      have hTR : t = R := by
        rw [hT]
        apply ByteArray.ext
        rw [ByteArray.data_append]
        simp
      subst hTR
      rw [getP_lst d m hm0 _ r (frameS_big hne), hR 0 (t.size + 1) (by omega) (by omega)]
      simp only [Nat.zero_add]
  · rw [if_neg h3] at hp
    cases hp

theorem trip_all (f : F) : f.All TripQ := F.all_of trip_q f

/-- A value that may be, and has a text: what stands ahead of anything is read as it. -/
theorem trip_p (k n : Int) (s : ByteArray) (l : F) (hm : vmay k n s l = true) (hn : -9223372036854775808 ≤ n ∧ n ≤ 9223372036854775807) (hw : l.wf) (hne : ¬ (putV k n s l).size = 0) (r : ByteArray) :
    getR (putV k n s l ++ r) = .ok ⟨k, n, s, l, (putV k n s l).size, 1 + l.cnt⟩ :=
  trip_q k n s l (trip_all l) 6 6000 r hm hn hw hne

end Go.Proofs.YtgjnllkbfjeihaaDoor
