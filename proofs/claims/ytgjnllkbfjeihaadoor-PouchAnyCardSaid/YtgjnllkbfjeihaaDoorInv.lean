/-
  What is read from a text has just that text.
-/
import Derived.Test.YtgjnllkbfjeihaaDoorTrip
namespace Go.Proofs.YtgjnllkbfjeihaaDoor
open Go.RowKit

theorem ba_nil_append' (t : ByteArray) : (⟨#[]⟩ : ByteArray) ++ t = t := by
  apply ByteArray.ext
  simp

theorem dig_ten (n d : Nat) (hn : n ≠ 0) (hd : d < 10) : Lib.decDigits (n * 10 + d) = Lib.decDigits n ++ [UInt8.ofNat (48 + d)] := by
  rw [Lib.decDigits, dif_neg (by omega), show (n * 10 + d) / 10 = n by omega, show (n * 10 + d) % 10 = d by omega]

theorem u8_dig (c : UInt8) (h : 48 ≤ c.toNat) : UInt8.ofNat (48 + (c.toNat - 48)) = c := by
  rw [show 48 + (c.toNat - 48) = c.toNat by omega]
  exact UInt8.ofNat_toNat

/-- A length that was read is written with just those digits. -/
theorem lenP_inv : ∀ (l : List UInt8) (n k : Nat) (P : List UInt8) (N K : Nat), lenP n k l = (N, K, 0) → (k = 0 ∧ n = 0 ∧ P = []) ∨ (0 < k ∧ P = Lib.decDigits n ∧ P.length = k) → ∃ rest, P ++ l = Lib.decDigits N ++ 58 :: rest ∧ K = (Lib.decDigits N).length + 1
  | [], n, k, P, N, K, h, _ => by
    unfold lenP at h
    simp at h
  | c :: l, n, k, P, N, K, h, hP => by
    unfold lenP at h
    by_cases hd : 48 ≤ c.toNat ∧ c.toNat ≤ 57
    · rw [if_pos hd] at h
      by_cases hz : (0 < k ∧ n = 0) ∨ k = 7
      · rw [if_pos hz] at h
        simp at h
      · rw [if_neg hz] at h
        obtain ⟨rest, h1, h2⟩ := lenP_inv l (n * 10 + (c.toNat - 48)) (k + 1) (P ++ [c]) N K h (.inr (by
          refine ⟨by omega, ?_, ?_⟩
          · rcases hP with ⟨rfl, rfl, rfl⟩ | ⟨hk, rfl, hl⟩
            · rw [Nat.zero_mul, Nat.zero_add, Lib.decDigits, dif_pos (by omega), u8_dig c hd.1]
              rfl
            · rw [dig_ten n (c.toNat - 48) (by omega) (by omega), u8_dig c hd.1]
          · rcases hP with ⟨rfl, rfl, rfl⟩ | ⟨hk, _, hl⟩
            · rfl
            · rw [List.length_append, hl]; rfl))
        exact ⟨rest, by rw [← h1]; simp, h2⟩
    · rw [if_neg hd] at h
      by_cases h0 : k = 0 ∨ c.toNat ≠ 58
      · rw [if_pos h0] at h
        simp at h
      · rw [if_neg h0] at h
        simp only [Prod.mk.injEq, and_true] at h
        obtain ⟨rfl, rfl⟩ := h
        have hc : c = 58 := UInt8.toNat_inj.1 (by have : ¬ c.toNat ≠ 58 := fun e => h0 (.inr e); show c.toNat = 58; omega)
        rcases hP with ⟨hk, _, _⟩ | ⟨hk, hp, hl⟩
        · exact absurd (.inl hk) h0
        · exact ⟨l, by rw [hp, hc], by rw [← hp, hl]⟩

/-- What was cut, with its length, its colon and its end's byte, is the text's beginning. -/
theorem cut_inv (t : ByteArray) (h : (cutP t).2.2 = 0) (e : ByteArray) (he : (t.extract ((cutP t).2.1 - 1) (cutP t).2.1).data.toList = e.data.toList) : t.extract 0 (cutP t).2.1 = frameS (cutP t).1 e := by
  have hbd := cutP_bd t h
  have hfl := frame_list (cutP t).1 e hbd.2.2.1
  unfold cutP at h he hbd hfl ⊢
  rcases hr : lenP 0 0 t.data.toList with ⟨N, K, z⟩
  rw [hr] at h he hbd hfl
  simp only at h he hbd hfl ⊢
  by_cases hz : z = 0
  · subst hz
    simp only [if_true] at h he hbd hfl ⊢
    by_cases hs : t.size - K ≤ N
    · rw [if_pos hs] at h
      simp at h
    · rw [if_neg hs] at h he hbd hfl ⊢
      simp only at he hbd hfl ⊢
      obtain ⟨rest, h1, h2⟩ := lenP_inv _ 0 0 [] N K hr (.inl ⟨rfl, rfl, rfl⟩)
      rw [List.nil_append] at h1
      have hsz : (t.extract K (K + N)).size = N := by rw [ByteArray.size_extract]; omega
      rw [hsz] at hfl
      apply ByteArray.ext
      apply Array.ext'
      rw [hfl, Lib.extract_data, Lib.extract_data, ← he, Lib.extract_data, h1]
      have e1 : (Lib.decDigits N ++ 58 :: rest).drop K = rest := by
        rw [h2, show Lib.decDigits N ++ 58 :: rest = (Lib.decDigits N ++ [58]) ++ rest by simp, List.drop_left' (by simp)]
      have e2 : (Lib.decDigits N ++ 58 :: rest).drop (K + N + 1 - 1) = rest.drop N := by
        rw [show K + N + 1 - 1 = K + N by omega, ← List.drop_drop, e1]
      rw [e1, e2, List.drop_zero, show K + N - K = N by omega, show K + N + 1 - 0 = (Lib.decDigits N).length + (1 + (N + 1)) by omega, show K + N + 1 - (K + N + 1 - 1) = 1 by omega]
      have e3 : (Lib.decDigits N ++ 58 :: rest).take ((Lib.decDigits N).length + (1 + (N + 1))) = Lib.decDigits N ++ (58 :: rest).take (1 + (N + 1)) := by
        rw [List.take_append, List.take_of_length_le (by omega)]
        congr 2
        omega
      rw [e3, show 1 + (N + 1) = (N + 1) + 1 by omega, List.take_succ_cons, List.take_add]
  · rw [if_neg hz] at h
    simp at h
    exact absurd h hz

/-- What is known of what was read. -/
def InvG (d : Nat) (t : ByteArray) (m : Int) (x : G) : Prop :=
  vmayB x.k x.n x.s x.l d m = true ∧ putV x.k x.n x.s x.l = t.extract 0 x.b ∧ x.c = 1 + x.l.cnt ∧ 1 ≤ x.b ∧ x.b ≤ t.size

theorem items_inv (d : Nat) (H : ∀ (t : ByteArray) (m : Int) (x : G), 0 ≤ m → getP d t m = .ok x → InvG d t m x) (m : Int) : ∀ (f : Nat) (t : ByteArray) (n : Nat) (l : F) (z : Nat) (acc : ByteArray), itemsP (getP d) m f t n = some (l, z) → (n : Int) ≤ m → acc.size + t.size ≤ 9999999 →
    putF l acc = some (acc ++ t) ∧ l.ok = true ∧ l.dep ≤ d ∧ z = n + l.cnt
  | 0, t, n, l, z, acc, h, _, _ => by cases h
  | f + 1, t, n, l, z, acc, h, hn, ha => by
    unfold itemsP at h
    by_cases h0 : t.size = 0
    · rw [if_pos h0] at h
      cases h
      refine ⟨?_, rfl, Nat.zero_le _, rfl⟩
      rw [empty_of_size h0, append_none]
      rfl
    · rw [if_neg h0] at h
      cases hx : getP d t (m - n) with
      | error e => rw [hx] at h; cases h
      | ok x =>
        rw [hx] at h
        simp only at h
        obtain ⟨g1, g2, g3, g4, g5⟩ := H t (m - n) x (by omega) hx
        cases hr : itemsP (getP d) m f (t.extract x.b t.size) (n + x.c) with
        | none => rw [hr] at h; cases h
        | some q =>
          obtain ⟨r, zz⟩ := q
          rw [hr] at h
          simp only at h
          cases h
          unfold vmayB at g1
          simp only [Bool.and_eq_true, decide_eq_true_eq] at g1
          obtain ⟨⟨⟨a1, a2⟩, a3⟩, a4⟩ := g1
          have hsz : (t.extract 0 x.b).size = x.b := by rw [ByteArray.size_extract]; omega
          have hcut : t.extract 0 x.b ++ t.extract x.b t.size = t := by
            apply ByteArray.ext
            apply Array.ext'
            rw [ByteArray.data_append, Array.toList_append, Lib.extract_data, Lib.extract_data, List.drop_zero, Nat.sub_zero]
            rw [show List.take (t.size - x.b) (List.drop x.b t.data.toList) = List.drop x.b t.data.toList from List.take_of_length_le (by simp)]
            exact List.take_append_drop _ _
          obtain ⟨b1, b2, b3, b4⟩ := items_inv d H m f (t.extract x.b t.size) (n + x.c) r z (acc ++ t.extract 0 x.b) hr (by omega) (by rw [ByteArray.size_append, hsz, ByteArray.size_extract]; omega)
          refine ⟨?_, ?_, ?_, ?_⟩
          · rw [putF_cons, g2, hsz, if_neg (by omega), b1, ByteArray.append_assoc, hcut]
          · simp only [F.ok, a1, a2, b2, Bool.and_self]
          · simp only [F.dep]; omega
          · simp only [F.cnt]; omega

theorem getP_inv : ∀ (d : Nat) (t : ByteArray) (m : Int) (x : G), 0 ≤ m → getP d t m = .ok x → InvG d t m x
  | 0, t, m, x, _, h => by
    unfold getP at h
    split at h <;> cases h
  | d + 1, t, m, x, hm, h => by
    obtain ⟨_, hb, hc⟩ := getP_bd (d + 1) t m x h hm
    have hbd := cutP_bd t hc
    unfold getP at h
    rw [if_pos hc] at h
    by_cases hm0 : m = 0
    · rw [if_pos hm0] at h; cases h
    · rw [if_neg hm0] at h
      simp only at h
      split at h
      · rename_i he
        split at h
        · rename_i v hv
          cases h
          obtain ⟨ht, _, _⟩ := numP_inv hv
          refine ⟨?_, ?_, rfl, hbd.1, hbd.2.1⟩
          · unfold vmayB pureB
            simp [F.ok, F.dep, F.cnt, F.len]
            omega
          · rw [cut_inv t hc ⟨#[35]⟩ he, ht]
            rfl
        · cases h
      · split at h
        · rename_i he
          cases h
          refine ⟨?_, ?_, rfl, hbd.1, hbd.2.1⟩
          · unfold vmayB pureB
            simp [F.ok, F.dep, F.cnt, F.len]
            omega
          · rw [cut_inv t hc ⟨#[44]⟩ he]
            rfl
        · split at h
          · rename_i he
            split at h
            · rename_i l z hl
              cases h
              obtain ⟨b1, b2, b3, b4⟩ := items_inv d (getP_inv d) (m - 1) _ _ 0 l z ⟨#[]⟩ hl (by omega) (by have := hbd.2.2.1; show 0 + _ ≤ _; omega)
              have b5 := itemsP_bd (getP d) (fun t m x h hm => (getP_bd d t m x h hm).1) (m - 1) _ _ 0 l z hl (by omega)
              refine ⟨?_, ?_, by show 1 + z = 1 + l.cnt; omega, hbd.1, hbd.2.1⟩
              · unfold vmayB pureB
                simp only [b2, Bool.and_true, Bool.and_eq_true, decide_eq_true_eq]
                refine ⟨⟨?_, by show (l.dep : Int) + 1 ≤ ((d + 1 : Nat) : Int); omega⟩, by show (l.cnt : Int) + 1 ≤ m; omega⟩
                simp
              · rw [cut_inv t hc ⟨#[93]⟩ he]
                show putV 3 0 ⟨#[]⟩ l = _
                unfold putV
                rw [if_neg (by decide), if_neg (by decide), b1]
                simp only [ba_nil_append']
            · cases h
          · cases h

/-- What Get reads is a value that may be, written just so. -/
theorem getR_inv {t : ByteArray} {x : G} (h : getR t = .ok x) : vmay x.k x.n x.s x.l = true ∧ putS x.k x.n x.s x.l = t.extract 0 x.b ∧ 1 ≤ x.b ∧ x.b ≤ t.size ∧ (-9223372036854775808 ≤ x.n ∧ x.n ≤ 9223372036854775807) ∧ x.l.wf := by
  obtain ⟨h1, h2, h3, h4, h5⟩ := getP_inv 6 t 6000 x (by decide) h
  have hb := (getP_bd 6 t 6000 x h (by decide)).1
  refine ⟨h1, ?_, h4, h5, hb.2.2.1, hb.2.2.2⟩
  unfold putS
  rw [if_pos (show vmay x.k x.n x.s x.l = true from h1)]
  exact h2

end Go.Proofs.YtgjnllkbfjeihaaDoor
