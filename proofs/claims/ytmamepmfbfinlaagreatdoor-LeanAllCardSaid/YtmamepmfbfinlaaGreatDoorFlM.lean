/-
  Floats, plainly: which words the whole numbers have, and what '+', '-', '*', '/ 65521', the floor and the tests give of them. No translation is imported.
-/
import Derived.WalkLawsBesides
namespace Go.Proofs.Flo
open Ieee

/-- 'm * 2 ^ p' is 'N / 2 ^ k'. -/
def MV (k m : Nat) (p : Int) (N : Nat) : Prop := m * 2 ^ p.toNat * 2 ^ k = N * 2 ^ (-p).toNat

/-- A number of value 'n / 2 ^ k' whose zero is +0. -/
def V (k : Nat) (d : Datum) (n : Int) : Prop := ∃ m p, d = .number (decide (n < 0)) m p ∧ MV k m p n.natAbs

theorem MV.zero_iff {k m : Nat} {p : Int} {N : Nat} (h : MV k m p N) : m = 0 ↔ N = 0 := by
  unfold MV at h
  have h1 : 0 < 2 ^ p.toNat := Nat.two_pow_pos _
  have h2 : 0 < 2 ^ k := Nat.two_pow_pos _
  have h3 : 0 < 2 ^ (-p).toNat := Nat.two_pow_pos _
  constructor
  · intro e
    rw [e, Nat.zero_mul, Nat.zero_mul] at h
    rcases Nat.mul_eq_zero.1 h.symm with h | h
    · exact h
    · omega
  · intro e
    rw [e, Nat.zero_mul] at h
    rcases Nat.mul_eq_zero.1 h with h | h
    · rcases Nat.mul_eq_zero.1 h with h | h
      · exact h
      · omega
    · omega

theorem log2_mul_pow (m e : Nat) (h : m ≠ 0) : (m * 2 ^ e).log2 = m.log2 + e := by
  have hp : m * 2 ^ e ≠ 0 := Nat.mul_ne_zero h (Nat.ne_of_gt (Nat.two_pow_pos _))
  rw [Nat.log2_eq_iff hp]
  constructor
  · rw [Nat.pow_add]; exact Nat.mul_le_mul_right _ (Nat.log2_self_le h)
  · have : m.log2 + e + 1 = (m.log2 + 1) + e := by omega
    rw [this, Nat.pow_add]
    exact Nat.mul_lt_mul_of_pos_right Nat.lt_log2_self (Nat.two_pow_pos _)

theorem MV.log {k m : Nat} {p : Int} {N : Nat} (h : MV k m p N) (hN : N ≠ 0) : (m.log2 : Int) + p + k = N.log2 := by
  have hm : m ≠ 0 := fun e => hN (h.zero_iff.1 e)
  unfold MV at h
  have e1 : (m * 2 ^ p.toNat * 2 ^ k).log2 = m.log2 + p.toNat + k := by
    rw [log2_mul_pow _ _ (Nat.mul_ne_zero hm (Nat.ne_of_gt (Nat.two_pow_pos _))), log2_mul_pow _ _ hm]
  have e2 := log2_mul_pow N (-p).toNat hN
  rw [h] at e1
  omega

/-- Rounding that has nothing to round. -/
theorem cut_exact (s : Bool) (n drop : Nat) (hn : n ≠ 0) (hd : n % 2 ^ drop = 0) : Toward.even.cut s n drop = n / 2 ^ drop := by
  have hle : drop ≤ n.log2 := by
    rw [Nat.le_log2 hn]
    exact Nat.le_of_dvd (Nat.pos_of_ne_zero hn) (Nat.dvd_of_mod_eq_zero hd)
  have hmin : min drop (n.log2 + 2) = drop := by omega
  have hpos : 0 < 2 ^ drop := Nat.two_pow_pos _
  unfold Toward.cut
  simp only [hmin, Nat.shiftLeft_eq, Nat.one_mul, hd, Nat.mul_zero]
  have h1 : decide (2 ^ drop < 0) = false := by simp
  have h2 : (2 ^ drop == 0) = false := by simp
  simp

/-- The rung of 'N / 2 ^ k'. -/
def rungOf (k N : Nat) : Nat := if N = 0 then 0 else (1022 + N.log2 - k) * 2 ^ 52 + N * 2 ^ (52 - N.log2)

theorem log2_lt53 {N : Nat} (h0 : N ≠ 0) (h : N < 2 ^ 53) : N.log2 ≤ 52 := by
  have := (Nat.log2_lt (n := N) (k := 53) h0).2 h
  omega

theorem sig_bounds {N : Nat} (h0 : N ≠ 0) (h : N < 2 ^ 53) : 2 ^ 52 ≤ N * 2 ^ (52 - N.log2) ∧ N * 2 ^ (52 - N.log2) < 2 ^ 53 := by
  have hl := log2_lt53 h0 h
  constructor
  · calc 2 ^ 52 = 2 ^ N.log2 * 2 ^ (52 - N.log2) := by rw [← Nat.pow_add]; congr 1; omega
      _ ≤ _ := Nat.mul_le_mul_right _ (Nat.log2_self_le h0)
  · calc N * 2 ^ (52 - N.log2) < 2 ^ (N.log2 + 1) * 2 ^ (52 - N.log2) := Nat.mul_lt_mul_of_pos_right Nat.lt_log2_self (Nat.two_pow_pos _)
      _ = 2 ^ 53 := by rw [← Nat.pow_add]; congr 1; omega

theorem double_infRung : double.infRung = 2047 * 2 ^ 52 := by decide
theorem double_binade : double.binade = 2 ^ 52 := by decide
theorem double_leastPlace : double.leastPlace = -1074 := by decide
theorem double_signWeight : double.signWeight = 2 ^ 63 := by decide

/-- What is written of a value depends on the value alone. -/
theorem nearest_of_MV {k m : Nat} {p : Int} {N : Nat} (s : Bool) (h : MV k m p N) (hk : k ≤ 1000) (hN : N < 2 ^ 53) : double.nearest s m p = double.word s (rungOf k N) := by
  by_cases h0 : N = 0
  · have hm : m = 0 := h.zero_iff.2 h0
    subst h0
    simp [Format.nearest, hm, rungOf]
  have hm : m ≠ 0 := fun e => h0 (h.zero_iff.1 e)
  have hlog := h.log h0
  have hl := log2_lt53 h0 hN
  have hsb := sig_bounds h0 hN
  unfold Format.nearest
  rw [if_neg hm]
  simp only [double_infRung, double_binade, double_leastPlace]
  have hlast : max (p + (m.log2 : Int) - (double.fractionBits : Int)) (-1074) = (N.log2 : Int) - k - 52 := by
    show max (p + (m.log2 : Int) - 52) (-1074) = _
    omega
  rw [hlast]
  have hkept : Toward.even.cut s (m <<< (p - ((N.log2 : Int) - k - 52)).toNat) (((N.log2 : Int) - k - 52) - p).toNat = N * 2 ^ (52 - N.log2) := by
    rw [Nat.shiftLeft_eq]
    have hpos : ∀ e, 0 < 2 ^ e := fun e => Nat.two_pow_pos e
    have key : m * 2 ^ (p - ((N.log2 : Int) - k - 52)).toNat = N * 2 ^ (52 - N.log2) * 2 ^ (((N.log2 : Int) - k - 52) - p).toNat := by
      unfold MV at h
      apply Nat.eq_of_mul_eq_mul_right (hpos (p.toNat + k))
      rw [Nat.pow_add]
      calc m * 2 ^ (p - ((N.log2 : Int) - k - 52)).toNat * (2 ^ p.toNat * 2 ^ k)
          = (m * 2 ^ p.toNat * 2 ^ k) * 2 ^ (p - ((N.log2 : Int) - k - 52)).toNat := by ac_rfl
        _ = N * 2 ^ (-p).toNat * 2 ^ (p - ((N.log2 : Int) - k - 52)).toNat := by rw [h]
        _ = N * 2 ^ ((-p).toNat + (p - ((N.log2 : Int) - k - 52)).toNat) := by rw [Nat.mul_assoc, ← Nat.pow_add]
        _ = N * 2 ^ ((52 - N.log2) + (((N.log2 : Int) - k - 52) - p).toNat + (p.toNat + k)) := by congr 2; omega
        _ = N * 2 ^ (52 - N.log2) * 2 ^ (((N.log2 : Int) - k - 52) - p).toNat * (2 ^ p.toNat * 2 ^ k) := by
          rw [Nat.pow_add, Nat.pow_add, Nat.pow_add]; ac_rfl
    rw [key, cut_exact]
    · exact Nat.mul_div_cancel _ (hpos _)
    · have := hpos (((N.log2 : Int) - k - 52) - p).toNat
      exact Nat.mul_ne_zero (by omega) (by omega)
    · exact Nat.mul_mod_left _ _
  rw [hkept]
  unfold rungOf
  rw [if_neg h0]
  congr 1
  have e : (((N.log2 : Int) - k - 52) - (-1074)).toNat = 1022 + N.log2 - k := by omega
  rw [e]
  clear hkept hlast e hlog hm h
  generalize N * 2 ^ (52 - N.log2) = X at *
  have h0 : 1022 + N.log2 - k ≤ 1074 := by omega
  generalize 1022 + N.log2 - k = Y at *
  have h2 : Y * 2 ^ 52 + X ≤ 2047 * 2 ^ 52 := by omega
  rw [Nat.min_eq_left h2]

theorem write_of_V {k : Nat} {d : Datum} {n : Int} (h : V k d n) (hk : k ≤ 1000) (hn : n.natAbs < 2 ^ 53) : double.write d = double.word (decide (n < 0)) (rungOf k n.natAbs) := by
  obtain ⟨m, p, rfl, hm⟩ := h
  exact nearest_of_MV _ hm hk hn

/-- The bits of 'n / 2 ^ k'. -/
def fk (k : Nat) (n : Int) : Nat := double.word (decide (n < 0)) (rungOf k n.natAbs)

theorem V_int (n : Int) : V 0 (.number (decide (n < 0)) n.natAbs 0) n := ⟨_, _, rfl, by simp [MV]⟩

theorem floatOfInt_eq (n : Int) (hn : n.natAbs < 2 ^ 53) : floatOfInt .f64 n = fk 0 n := by
  show double.write (.number (decide (n < 0)) n.natAbs 0) = _
  exact write_of_V (V_int n) (by omega) hn

theorem rungOf_bounds {k N : Nat} (hk : k ≤ 1000) (h0 : N ≠ 0) (h : N < 2 ^ 53) : 2 ^ 52 ≤ rungOf k N ∧ rungOf k N < 2047 * 2 ^ 52 := by
  have hl := log2_lt53 h0 h
  have hsb := sig_bounds h0 h
  unfold rungOf
  rw [if_neg h0]
  have : (1022 + N.log2 - k) * 2 ^ 52 ≤ 1074 * 2 ^ 52 := Nat.mul_le_mul_right _ (by omega)
  omega

theorem read_word (s : Bool) (r : Nat) (hr : r < 2 ^ 63) : double.read (double.word s r) =
    if r < 2 ^ 52 then .number s r (-1074) else if r < 2047 * 2 ^ 52 then .number s (2 ^ 52 + r % 2 ^ 52) (-1074 + ((r / 2 ^ 52 - 1 : Nat) : Int))
    else if r = 2047 * 2 ^ 52 then .infinity s else .nan s (r - 2047 * 2 ^ 52) := by
  have h1 : double.word s r / 2 ^ 63 % 2 == 1 ↔ s = true := by
    unfold Format.word
    rw [double_signWeight]
    cases s
    · simp; omega
    · simp; omega
  have h1' : (double.word s r / 2 ^ 63 % 2 == 1) = s := by
    cases s
    · cases h : (double.word false r / 2 ^ 63 % 2 == 1)
      · rfl
      · rw [h] at h1; simp at h1
    · cases h : (double.word true r / 2 ^ 63 % 2 == 1)
      · rw [h] at h1; simp at h1
      · rfl
  have h2 : double.word s r % 2 ^ 63 = r := by
    unfold Format.word
    rw [double_signWeight]
    cases s
    · simp; omega
    · simp; omega
  unfold Format.read
  simp only [double_signWeight, double_infRung, double_binade, double_leastPlace, h1', h2]

theorem read_fk_at (k : Nat) (n : Int) (hk : k ≤ 1000) (h0 : n ≠ 0) (hn : n.natAbs < 2 ^ 53) :
    double.read (fk k n) = .number (decide (n < 0)) (n.natAbs * 2 ^ (52 - n.natAbs.log2)) ((n.natAbs.log2 : Int) - 52 - k) := by
  unfold fk
  have h0' : n.natAbs ≠ 0 := by omega
  have hb := rungOf_bounds hk h0' hn
  have hl := log2_lt53 h0' hn
  have hsb := sig_bounds h0' hn
  rw [read_word _ _ (by omega), if_neg (by omega), if_pos hb.2]
  have e : rungOf k n.natAbs = (1023 + n.natAbs.log2 - k) * 2 ^ 52 + (n.natAbs * 2 ^ (52 - n.natAbs.log2) - 2 ^ 52) := by
    unfold rungOf
    rw [if_neg h0']
    rw [show 1023 + n.natAbs.log2 - k = (1022 + n.natAbs.log2 - k) + 1 from by omega, Nat.add_mul, Nat.one_mul]
    clear hb
    generalize n.natAbs * 2 ^ (52 - n.natAbs.log2) = X at *
    generalize (1022 + n.natAbs.log2 - k) * 2 ^ 52 = Y at *
    omega
  generalize hX : n.natAbs * 2 ^ (52 - n.natAbs.log2) = X at *
  have emod : rungOf k n.natAbs % 2 ^ 52 = X - 2 ^ 52 := by
    rw [e, Nat.add_comm, Nat.add_mul_mod_self_right, Nat.mod_eq_of_lt]; omega
  have ediv : rungOf k n.natAbs / 2 ^ 52 = 1023 + n.natAbs.log2 - k := by
    rw [e, Nat.add_comm, Nat.add_mul_div_right _ _ (by decide), Nat.div_eq_of_lt (by omega)]; omega
  rw [emod, ediv]
  have ex : 2 ^ 52 + (X - 2 ^ 52) = X := by omega
  rw [ex]
  have ep : (-1074 + ((1023 + n.natAbs.log2 - k - 1 : Nat) : Int)) = (n.natAbs.log2 : Int) - 52 - k := by omega
  rw [ep]

theorem read_fk (k : Nat) (n : Int) (hk : k ≤ 1000) (hn : n.natAbs < 2 ^ 53) : V k (double.read (fk k n)) n := by
  by_cases h0 : n = 0
  · subst h0
    unfold fk
    rw [read_word _ _ (by rw [show rungOf k (0 : Int).natAbs = 0 from rfl]; decide)]
    refine ⟨0, -1074, ?_, ?_⟩
    · simp [rungOf]
    · unfold MV; rw [show (0 : Int).natAbs = 0 from rfl, Nat.zero_mul, Nat.zero_mul, Nat.zero_mul]
  have hl := log2_lt53 (show n.natAbs ≠ 0 by omega) hn
  refine ⟨_, _, read_fk_at k n hk h0 hn, ?_⟩
  unfold MV
  have e1 : ((n.natAbs.log2 : Int) - 52 - k).toNat = 0 := by omega
  rw [e1]
  simp only [Nat.pow_zero, Nat.mul_one]
  rw [Nat.mul_assoc, ← Nat.pow_add]
  have ee : 52 - n.natAbs.log2 + k = (-((n.natAbs.log2 : Int) - 52 - k)).toNat := by omega
  rw [ee]

/-- The same over the integers. -/
def IV (k : Nat) (z p a : Int) : Prop := z * ((2 ^ p.toNat : Nat) : Int) * ((2 ^ k : Nat) : Int) = a * ((2 ^ (-p).toNat : Nat) : Int)

theorem powpos (e : Nat) : (0 : Int) < ((2 ^ e : Nat) : Int) := by exact_mod_cast Nat.two_pow_pos e

theorem pow_add_int (a b : Nat) : ((2 ^ (a + b) : Nat) : Int) = ((2 ^ a : Nat) : Int) * ((2 ^ b : Nat) : Int) := by
  rw [Nat.pow_add]; exact Int.natCast_mul _ _

theorem signed_eq (s : Bool) (m u : Nat) : signed s m u = signed s m 0 * ((2 ^ u : Nat) : Int) := by
  unfold signed
  cases s <;> simp [Nat.shiftLeft_eq, Int.neg_mul]

theorem MV.toIV {k m : Nat} {p n : Int} (h : MV k m p n.natAbs) : IV k (signed (decide (n < 0)) m 0) p n := by
  unfold MV at h
  unfold IV
  have h' : (m : Int) * ((2 ^ p.toNat : Nat) : Int) * ((2 ^ k : Nat) : Int) = (n.natAbs : Int) * ((2 ^ (-p).toNat : Nat) : Int) := by exact_mod_cast h
  by_cases hn : n < 0
  · have e1 : signed (decide (n < 0)) m 0 = -(m : Int) := by simp [signed, hn]
    have e2 : n = -(n.natAbs : Int) := by omega
    rw [e1]
    generalize (n.natAbs : Int) = N at *
    rw [e2, Int.neg_mul, Int.neg_mul, Int.neg_mul, h']
  · have e1 : signed (decide (n < 0)) m 0 = (m : Int) := by simp [signed, hn]
    have e2 : n = (n.natAbs : Int) := by omega
    rw [e1]
    generalize (n.natAbs : Int) = N at *
    rw [e2, h']

theorem neg_of_mul {a c : Int} (h : a * c < 0) (hc : 0 < c) : a < 0 := by
  by_cases hn : a < 0
  · exact hn
  · have := Int.mul_nonneg (Int.not_lt.1 hn) (Int.le_of_lt hc)
    omega

theorem IV.toMV {k : Nat} {z p a : Int} (h : IV k z p a) : MV k z.natAbs p a.natAbs ∧ (z = 0 ↔ a = 0) ∧ (z < 0 ↔ a < 0) := by
  unfold IV at h
  have p1 := powpos p.toNat
  have p2 := powpos k
  have p3 := powpos (-p).toNat
  have q : (0 : Int) < ((2 ^ p.toNat : Nat) : Int) * ((2 ^ k : Nat) : Int) := Int.mul_pos p1 p2
  rw [Int.mul_assoc] at h
  refine ⟨?_, ?_, ?_⟩
  · have := congrArg Int.natAbs h
    rw [Int.natAbs_mul, Int.natAbs_mul, Int.natAbs_mul] at this
    unfold MV
    rw [Nat.mul_assoc]
    exact this
  · constructor
    · intro e
      rw [e, Int.zero_mul] at h
      rcases Int.mul_eq_zero.1 h.symm with h | h
      · exact h
      · omega
    · intro e
      rw [e, Int.zero_mul] at h
      rcases Int.mul_eq_zero.1 h with h | h
      · exact h
      · omega
  · constructor
    · intro e
      have := Int.mul_neg_of_neg_of_pos e q
      rw [h] at this
      exact neg_of_mul this p3
    · intro e
      have := Int.mul_neg_of_neg_of_pos e p3
      rw [← h] at this
      exact neg_of_mul this q

theorem IV.shift {k : Nat} {z i a base : Int} (h : IV k z i a) (hb : base ≤ i) : IV k (z * ((2 ^ (i - base).toNat : Nat) : Int)) base a := by
  unfold IV at *
  have p3 := powpos (-i).toNat
  apply Int.eq_of_mul_eq_mul_right (Int.ne_of_gt p3)
  have e : (i - base).toNat + base.toNat + (-i).toNat = i.toNat + (-base).toNat := by omega
  have e' : ((2 ^ (i - base).toNat : Nat) : Int) * ((2 ^ base.toNat : Nat) : Int) * ((2 ^ (-i).toNat : Nat) : Int) = ((2 ^ i.toNat : Nat) : Int) * ((2 ^ (-base).toNat : Nat) : Int) := by
    rw [← pow_add_int, ← pow_add_int, ← pow_add_int, e]
  generalize ((2 ^ (i - base).toNat : Nat) : Int) = A at *
  generalize ((2 ^ base.toNat : Nat) : Int) = B at *
  generalize ((2 ^ (-i).toNat : Nat) : Int) = C at *
  generalize ((2 ^ i.toNat : Nat) : Int) = D at *
  generalize ((2 ^ (-base).toNat : Nat) : Int) = F at *
  generalize ((2 ^ k : Nat) : Int) = K at *
  calc z * A * B * K * C = z * K * (A * B * C) := by ac_rfl
    _ = z * K * (D * F) := by rw [e']
    _ = z * D * K * F := by ac_rfl
    _ = a * C * F := by rw [h]
    _ = a * F * C := by ac_rfl

theorem IV.add {k : Nat} {z z' p a b : Int} (h : IV k z p a) (h' : IV k z' p b) : IV k (z + z') p (a + b) := by
  unfold IV at *
  rw [Int.add_mul, Int.add_mul, Int.add_mul, h, h']

theorem IV.neg {k : Nat} {z p a : Int} (h : IV k z p a) : IV k (-z) p (-a) := by
  unfold IV at *
  rw [Int.neg_mul, Int.neg_mul, Int.neg_mul, h]

theorem signed_not (s : Bool) (m u : Nat) : signed (!s) m u = -signed s m u := by
  unfold signed
  cases s <;> simp

/-- Two numbers laid on one place. -/
theorem two_signed {k : Nat} {m n : Nat} {i j a b : Int} (h1 : MV k m i a.natAbs) (h2 : MV k n j b.natAbs) :
    IV k (signed (decide (a < 0)) m (i - min i j).toNat) (min i j) a ∧ IV k (signed (decide (b < 0)) n (j - min i j).toNat) (min i j) b := by
  constructor
  · rw [signed_eq]; exact h1.toIV.shift (Int.min_le_left ..)
  · rw [signed_eq]; exact h2.toIV.shift (Int.min_le_right ..)

theorem sum_V {k : Nat} {d e : Datum} {a b : Int} (h1 : V k d a) (h2 : V k e b) : ∃ f, d.sum e = some f ∧ V k f (a + b) := by
  obtain ⟨m, i, rfl, hm⟩ := h1
  obtain ⟨n, j, rfl, hn⟩ := h2
  obtain ⟨i1, i2⟩ := two_signed hm hn
  have hs := i1.add i2
  obtain ⟨hmv, hz, hlt⟩ := hs.toMV
  refine ⟨_, rfl, _, _, ?_, hmv⟩
  congr 1
  generalize signed (decide (a < 0)) m (i - min i j).toNat + signed (decide (b < 0)) n (j - min i j).toNat = T at *
  by_cases h0 : T = 0
  · have := hz.1 h0
    rw [if_pos h0]
    by_cases ha : a < 0
    · have hb : ¬ b < 0 := by omega
      have hc : ¬ a + b < 0 := by omega
      simp [hb, hc]
    · have hc : ¬ a + b < 0 := by omega
      simp [ha, hc]
  · rw [if_neg h0]
    exact decide_eq_decide.2 hlt

theorem diff_V {k : Nat} {d e : Datum} {a b : Int} (h1 : V k d a) (h2 : V k e b) : ∃ f, d.sum e.opposite = some f ∧ V k f (a - b) := by
  obtain ⟨m, i, rfl, hm⟩ := h1
  obtain ⟨n, j, rfl, hn⟩ := h2
  obtain ⟨i1, i2⟩ := two_signed hm hn
  have hs := i1.add i2.neg
  rw [← signed_not] at hs
  obtain ⟨hmv, hz, hlt⟩ := hs.toMV
  rw [← Int.sub_eq_add_neg] at hmv hz hlt
  refine ⟨_, rfl, _, _, ?_, hmv⟩
  congr 1
  generalize signed (decide (a < 0)) m (i - min i j).toNat + signed (!decide (b < 0)) n (j - min i j).toNat = T at *
  by_cases h0 : T = 0
  · have := hz.1 h0
    rw [if_pos h0]
    have hc : ¬ a - b < 0 := by omega
    by_cases ha : a < 0
    · have hb : b < 0 := by omega
      simp [hb, hc]
    · simp [ha, hc]
  · rw [if_neg h0]
    exact decide_eq_decide.2 hlt

theorem order_V {k : Nat} {d e : Datum} {a b : Int} (h1 : V k d a) (h2 : V k e b) : d.order e = some (compare a b) := by
  obtain ⟨m, i, rfl, hm⟩ := h1
  obtain ⟨n, j, rfl, hn⟩ := h2
  obtain ⟨i1, i2⟩ := two_signed hm hn
  have hs := i1.add i2.neg
  obtain ⟨_, hz, hlt⟩ := hs.toMV
  show some (compare (signed (decide (a < 0)) m (i - min i j).toNat) (signed (decide (b < 0)) n (j - min i j).toNat)) = _
  generalize signed (decide (a < 0)) m (i - min i j).toNat = S at *
  generalize signed (decide (b < 0)) n (j - min i j).toNat = T at *
  congr 1
  simp only [compare, compareOfLessAndEq]
  by_cases hl : a < b
  · have : S < T := by omega
    rw [if_pos hl, if_pos this]
  · have hl' : ¬ S < T := by omega
    rw [if_neg hl, if_neg hl']
    by_cases he : a = b
    · have : S = T := by omega
      rw [if_pos he, if_pos this]
    · have : ¬ S = T := by omega
      rw [if_neg he, if_neg this]

theorem product_V {d e : Datum} {a b : Int} (h1 : V 0 d a) (h2 : V 0 e b) (hab : (a = 0 → ¬ b < 0) ∧ (b = 0 → ¬ a < 0)) : ∃ f, d.product e = some f ∧ V 0 f (a * b) := by
  obtain ⟨m, i, rfl, hm⟩ := h1
  obtain ⟨n, j, rfl, hn⟩ := h2
  refine ⟨_, rfl, m * n, i + j, ?_, ?_⟩
  · congr 1
    by_cases ha : a < 0
    · by_cases hb : b < 0
      · have : 0 < a * b := Int.mul_pos_of_neg_of_neg ha hb
        have hc : ¬ a * b < 0 := by omega
        simp [ha, hb, hc]
      · have hb0 : 0 < b := by
          have := hab.2
          omega
        have hc : a * b < 0 := Int.mul_neg_of_neg_of_pos ha hb0
        simp [ha, hb, hc]
    · by_cases hb : b < 0
      · have ha0 : 0 < a := by
          have := hab.1
          omega
        have hc : a * b < 0 := Int.mul_neg_of_pos_of_neg ha0 hb
        simp [ha, hb, hc]
      · have : 0 ≤ a * b := Int.mul_nonneg (by omega) (by omega)
        have hc : ¬ a * b < 0 := by omega
        simp [ha, hb, hc]
  · unfold MV at *
    rw [Int.natAbs_mul]
    simp only [Nat.pow_zero, Nat.mul_one] at *
    have hp : ∀ e, 0 < 2 ^ e := fun e => Nat.two_pow_pos e
    apply Nat.eq_of_mul_eq_mul_right (hp ((-i).toNat + (-j).toNat + i.toNat + j.toNat))
    have e1 : 2 ^ (i + j).toNat * 2 ^ ((-i).toNat + (-j).toNat + i.toNat + j.toNat) = 2 ^ (i.toNat + j.toNat) * 2 ^ (i.toNat + j.toNat + (-(i + j)).toNat) := by
      rw [← Nat.pow_add, ← Nat.pow_add]; congr 1; omega
    calc m * n * 2 ^ (i + j).toNat * 2 ^ ((-i).toNat + (-j).toNat + i.toNat + j.toNat)
        = m * n * (2 ^ (i + j).toNat * 2 ^ ((-i).toNat + (-j).toNat + i.toNat + j.toNat)) := by ac_rfl
      _ = m * n * (2 ^ (i.toNat + j.toNat) * 2 ^ (i.toNat + j.toNat + (-(i + j)).toNat)) := by rw [e1]
      _ = (m * 2 ^ i.toNat) * (n * 2 ^ j.toNat) * 2 ^ (i.toNat + j.toNat + (-(i + j)).toNat) := by rw [Nat.pow_add 2 i.toNat j.toNat]; ac_rfl
      _ = (a.natAbs * 2 ^ (-i).toNat) * (b.natAbs * 2 ^ (-j).toNat) * 2 ^ (i.toNat + j.toNat + (-(i + j)).toNat) := by rw [hm, hn]
      _ = a.natAbs * b.natAbs * 2 ^ (-(i + j)).toNat * (2 ^ (-i).toNat * 2 ^ (-j).toNat * 2 ^ i.toNat * 2 ^ j.toNat) := by rw [Nat.pow_add, Nat.pow_add]; ac_rfl
      _ = _ := by rw [← Nat.pow_add, ← Nat.pow_add, ← Nat.pow_add]

theorem V_half {d : Datum} {a : Int} (h : V 0 d a) : V 1 d (2 * a) := by
  obtain ⟨m, p, rfl, hm⟩ := h
  refine ⟨m, p, ?_, ?_⟩
  · congr 1
    exact decide_eq_decide.2 (by omega)
  · unfold MV at *
    have : (2 * a).natAbs = 2 * a.natAbs := by omega
    rw [this, Nat.pow_one]
    rw [Nat.pow_zero, Nat.mul_one] at hm
    rw [hm]
    ac_rfl


/-- The operations on words. -/
theorem add_fk (k : Nat) (a b : Int) (hk : k ≤ 1000) (ha : a.natAbs < 2 ^ 53) (hb : b.natAbs < 2 ^ 53) (hab : (a + b).natAbs < 2 ^ 53) : double.add (fk k a) (fk k b) = some (fk k (a + b)) := by
  obtain ⟨f, e, hf⟩ := sum_V (read_fk k a hk ha) (read_fk k b hk hb)
  unfold Format.add
  rw [e]
  exact congrArg some (write_of_V hf hk hab)

theorem sub_fk (k : Nat) (a b : Int) (hk : k ≤ 1000) (ha : a.natAbs < 2 ^ 53) (hb : b.natAbs < 2 ^ 53) (hab : (a - b).natAbs < 2 ^ 53) : double.sub (fk k a) (fk k b) = some (fk k (a - b)) := by
  obtain ⟨f, e, hf⟩ := diff_V (read_fk k a hk ha) (read_fk k b hk hb)
  unfold Format.sub
  rw [e]
  exact congrArg some (write_of_V hf hk hab)

theorem mul_fk (a b : Int) (ha : a.natAbs < 2 ^ 53) (hb : b.natAbs < 2 ^ 53) (hab : (a * b).natAbs < 2 ^ 53) (hs : (a = 0 → ¬ b < 0) ∧ (b = 0 → ¬ a < 0)) : double.mul (fk 0 a) (fk 0 b) = some (fk 0 (a * b)) := by
  obtain ⟨f, e, hf⟩ := product_V (read_fk 0 a (by omega) ha) (read_fk 0 b (by omega) hb) hs
  unfold Format.mul
  rw [e]
  exact congrArg some (write_of_V hf (by omega) hab)

theorem order_fk (k : Nat) (a b : Int) (hk : k ≤ 1000) (ha : a.natAbs < 2 ^ 53) (hb : b.natAbs < 2 ^ 53) : double.order (fk k a) (fk k b) = some (compare a b) :=
  order_V (read_fk k a hk ha) (read_fk k b hk hb)

theorem fk_half (a : Int) (ha : (2 * a).natAbs < 2 ^ 53) : fk 1 (2 * a) = fk 0 a := by
  have h1 := write_of_V (V_half (read_fk 0 a (by omega) (by omega))) (by omega) ha
  have h2 := write_of_V (read_fk 0 a (by omega) (by omega)) (by omega) (by omega)
  rw [h2] at h1
  exact h1.symm


theorem cut_down (s : Bool) (n drop : Nat) : Toward.down.cut s n drop = n / 2 ^ drop + (s && n % 2 ^ drop != 0).toNat := by
  unfold Toward.cut
  simp only [Nat.shiftLeft_eq, Nat.one_mul]
  by_cases h : drop ≤ n.log2 + 2
  · rw [Nat.min_eq_left h]
  · rw [Nat.min_eq_right (by omega)]
    have h1 : n < 2 ^ (n.log2 + 2) := Nat.lt_of_lt_of_le Nat.lt_log2_self (Nat.pow_le_pow_right (by decide) (by omega))
    have h2 : n < 2 ^ drop := Nat.lt_of_lt_of_le h1 (Nat.pow_le_pow_right (by decide) (by omega))
    rw [Nat.div_eq_of_lt h1, Nat.div_eq_of_lt h2, Nat.mod_eq_of_lt h1, Nat.mod_eq_of_lt h2]

theorem cut_zero (s : Bool) (n drop : Nat) : Toward.zero.cut s n drop = n / 2 ^ drop := by
  unfold Toward.cut
  simp only [Nat.shiftLeft_eq, Nat.one_mul]
  by_cases h : drop ≤ n.log2 + 2
  · rw [Nat.min_eq_left h]; simp
  · rw [Nat.min_eq_right (by omega)]
    have h1 : n < 2 ^ (n.log2 + 2) := Nat.lt_of_lt_of_le Nat.lt_log2_self (Nat.pow_le_pow_right (by decide) (by omega))
    have h2 : n < 2 ^ drop := Nat.lt_of_lt_of_le h1 (Nat.pow_le_pow_right (by decide) (by omega))
    rw [Nat.div_eq_of_lt h1, Nat.div_eq_of_lt h2]; simp

theorem cross {M N P Q : Nat} (hP : 0 < P) (hQ : 0 < Q) (h : M * P = N * Q) : M / Q = N / P ∧ (M % Q = 0 ↔ N % P = 0) := by
  have e : M / Q = N / P := by
    rw [← Nat.mul_div_mul_right M Q hP, h, Nat.mul_comm Q P, Nat.mul_div_mul_right _ _ hQ]
  refine ⟨e, ?_⟩
  have m1 := Nat.div_add_mod M Q
  have m2 := Nat.div_add_mod N P
  rw [e] at m1
  generalize N / P = F at *
  have : (Q * F + M % Q) * P = (P * F + N % P) * Q := by rw [m1, m2, h]
  rw [Nat.add_mul, Nat.add_mul] at this
  have e3 : Q * F * P = P * F * Q := by ac_rfl
  have e2 : M % Q * P = N % P * Q := by omega
  constructor
  · intro hz
    rw [hz, Nat.zero_mul] at e2
    rcases Nat.mul_eq_zero.1 e2.symm with h | h
    · exact h
    · omega
  · intro hz
    rw [hz, Nat.zero_mul] at e2
    rcases Nat.mul_eq_zero.1 e2 with h | h
    · exact h
    · omega

theorem floor_neg (N P : Nat) (hP : 0 < P) : (-(N : Int)) / (P : Int) = -((N / P + (if N % P = 0 then 0 else 1) : Nat) : Int) := by
  have hp : (0 : Int) < P := by exact_mod_cast hP
  have m := Nat.div_add_mod N P
  have hr := Nat.mod_lt N hP
  generalize N / P = F at *
  generalize N % P = r at *
  have hN : (N : Int) = P * F + r := by rw [← m]; push_cast; rfl
  rw [hN]
  split
  · rename_i h0
    subst h0
    rw [show (-((P : Int) * F + ((0 : Nat) : Int))) = (-(F : Int)) * P from by rw [Int.neg_mul, Int.mul_comm (F : Int)]; simp]
    rw [Int.mul_ediv_cancel _ (by omega)]
    simp
  · rename_i h0
    rw [show (-((P : Int) * F + (r : Int))) = ((P : Int) - r) + (-((F : Int) + 1)) * P from by
      rw [Int.neg_mul, Int.add_mul, Int.mul_comm (F : Int) P]; omega]
    rw [Int.add_mul_ediv_right _ _ (by omega), Int.ediv_eq_zero_of_lt (by omega) (by omega)]
    simp

theorem floor_V {k : Nat} {d : Datum} {n : Int} (h : V k d n) : V 0 (d.integral .down) (n / ((2 ^ k : Nat) : Int)) := by
  obtain ⟨m, p, rfl, hm⟩ := h
  unfold MV at hm
  have hpk := Nat.two_pow_pos k
  have hpp := powpos k
  obtain ⟨c1, c2⟩ := cross hpk (Nat.two_pow_pos (-p).toNat) hm
  have ei : (Datum.number (decide (n < 0)) m p).integral .down = .number (decide (n < 0)) (Toward.down.cut (decide (n < 0)) (m <<< p.toNat) (-p).toNat) 0 := rfl
  rw [ei, cut_down, Nat.shiftLeft_eq, c1]
  have hsign : decide (n < 0) = decide (n / ((2 ^ k : Nat) : Int) < 0) := by
    apply decide_eq_decide.2
    constructor
    · exact fun hn => Int.ediv_neg_of_neg_of_pos hn hpp
    · intro hn
      by_cases h0 : n < 0
      · exact h0
      · have := Int.ediv_nonneg (Int.not_lt.1 h0) (Int.le_of_lt hpp)
        omega
  refine ⟨_, 0, by rw [← hsign], ?_⟩
  unfold MV
  simp only [Int.toNat_zero, Nat.pow_zero, Nat.mul_one, Int.neg_zero]
  by_cases hn : n < 0
  · have en : n = -(n.natAbs : Int) := by omega
    have ef := floor_neg n.natAbs (2 ^ k) hpk
    rw [← en] at ef
    rw [ef, Int.natAbs_neg, Int.natAbs_natCast]
    simp only [hn, decide_true, Bool.true_and]
    congr 1
    by_cases hz : n.natAbs % 2 ^ k = 0
    · have := c2.2 hz
      simp [this, hz]
    · have : m * 2 ^ p.toNat % 2 ^ (-p).toNat ≠ 0 := fun e => hz (c2.1 e)
      simp [this, hz]
  · have en : n = (n.natAbs : Int) := by omega
    have ef : n / ((2 ^ k : Nat) : Int) = ((n.natAbs / 2 ^ k : Nat) : Int) := by
      conv => lhs; rw [en]
      exact (Int.natCast_ediv _ _).symm
    rw [ef, Int.natAbs_natCast]
    simp [hn]

/-- math.Floor's own word. -/
theorem floor_fk (k : Nat) (n : Int) (hk : k ≤ 1000) (hn : n.natAbs < 2 ^ 53) (hf : (n / ((2 ^ k : Nat) : Int)).natAbs < 2 ^ 53) :
    double.write ((double.read (fk k n)).integral .down) = fk 0 (n / ((2 ^ k : Nat) : Int)) :=
  write_of_V (floor_V (read_fk k n hk hn)) (by omega) hf

theorem toInt_fk (n : Int) (hn : n.natAbs < 2 ^ 53) : (double.read (fk 0 n)).toInt .zero = some n := by
  obtain ⟨m, p, e, hm⟩ := read_fk 0 n (by omega) hn
  rw [e]
  unfold MV at hm
  have hpp := Nat.two_pow_pos (-p).toNat
  obtain ⟨c1, c2⟩ := cross (Nat.two_pow_pos 0) hpp hm
  show some (signed (decide (n < 0)) (Toward.zero.cut (decide (n < 0)) (m <<< p.toNat) (-p).toNat) 0) = _
  rw [cut_zero, Nat.shiftLeft_eq, c1]
  simp only [Nat.pow_zero, Nat.div_one]
  unfold signed
  congr 1
  by_cases h : n < 0
  · simp [h]; omega
  · simp [h]; omega


theorem log2_of {M k : Nat} (h1 : 2 ^ k ≤ M) (h2 : M < 2 ^ (k + 1)) : M.log2 = k := by
  have : M ≠ 0 := by have := Nat.two_pow_pos k; omega
  exact (Nat.log2_eq_iff this).2 ⟨h1, h2⟩

theorem rung_full {k kept : Nat} (h1 : 2 ^ 52 ≤ kept) (h2 : kept < 2 ^ 53) : rungOf k kept = (1074 - k) * 2 ^ 52 + kept := by
  have hl := log2_of h1 h2
  unfold rungOf
  rw [if_neg (by omega), hl]
  simp

/-- Rounding at two or three digits. -/
theorem cut_even_small (s : Bool) (M drop : Nat) (hd : drop ≤ M.log2 + 2) : ∃ c, Toward.even.cut s M drop = M / 2 ^ drop + c ∧ c ≤ 1 ∧ (c = 1 → 2 ^ drop ≤ 2 * (M % 2 ^ drop) ∧ (2 ^ drop = 2 * (M % 2 ^ drop) → M / 2 ^ drop % 2 = 1)) ∧ (c = 0 → 2 * (M % 2 ^ drop) ≤ 2 ^ drop ∧ (2 ^ drop = 2 * (M % 2 ^ drop) → M / 2 ^ drop % 2 = 0)) := by
  unfold Toward.cut
  simp only [Nat.shiftLeft_eq, Nat.one_mul, Nat.min_eq_left hd]
  generalize 2 ^ drop = G
  generalize M % G = r
  generalize M / G = q
  refine ⟨_, rfl, ?_, ?_, ?_⟩
  · cases (decide (G < 2 * r) || G == 2 * r && q % 2 == 1) <;> simp
  · intro h
    have : (decide (G < 2 * r) || G == 2 * r && q % 2 == 1) = true := by
      cases h' : (decide (G < 2 * r) || G == 2 * r && q % 2 == 1)
      · rw [h'] at h; simp at h
      · rfl
    simp at this
    omega
  · intro h
    have : (decide (G < 2 * r) || G == 2 * r && q % 2 == 1) = false := by
      cases h' : (decide (G < 2 * r) || G == 2 * r && q % 2 == 1)
      · rfl
      · rw [h'] at h; simp at h
    simp at this
    omega

theorem read_prime : double.read (fk 0 65521) = .number false (65521 * 2 ^ 37) (-37) := by
  rw [read_fk_at 0 65521 (by omega) (by decide) (by decide)]
  have h : (65521 : Int).natAbs.log2 = 15 := by decide
  rw [h]
  rfl

theorem nearest_at (s : Bool) (M L lg kept : Nat) (hM0 : M ≠ 0) (hlA : L ≤ 50) (h1 : M.log2 = lg) (h2 : 52 ≤ lg) (h3 : lg ≤ 60) (h4 : Toward.even.cut s M (lg - 52) = kept) (h5 : 2 ^ 52 ≤ kept) (h6 : kept < 2 ^ 53) :
    double.nearest s M ((L : Int) - 70) = double.word s (rungOf (122 - L - lg) kept) := by
  unfold Format.nearest
  rw [if_neg hM0]
  simp only [double_infRung, double_binade, double_leastPlace]
  have hlast : max ((L : Int) - 70 + (M.log2 : Int) - (double.fractionBits : Int)) (-1074) = (L : Int) + lg - 122 := by
    show max ((L : Int) - 70 + (M.log2 : Int) - 52) (-1074) = _
    omega
  rw [hlast]
  have e1 : ((L : Int) - 70 - ((L : Int) + lg - 122)).toNat = 0 := by omega
  have e2 : ((L : Int) + lg - 122 - ((L : Int) - 70)).toNat = lg - 52 := by omega
  have e3 : ((L : Int) + lg - 122 - (-1074)).toNat = 1074 - (122 - L - lg) := by omega
  rw [e1, e2, e3, Nat.shiftLeft_zero, h4, rung_full h5 h6]
  have hY : 1074 - (122 - L - lg) ≤ 1074 := by omega
  clear hlast e1 e2 e3 h1 h4
  generalize 1074 - (122 - L - lg) = Y at *
  have h7 : Y * 2 ^ 52 + kept ≤ 2047 * 2 ^ 52 := by omega
  rw [Nat.min_eq_left h7]

theorem finish_div (F r g kept : Nat) (h1 : F * 2 ^ g ≤ kept) (h2 : kept < (F + 1) * 2 ^ g) (h3 : r = 0 → kept = F * 2 ^ g) (h4 : r ≠ 0 → F * 2 ^ g < kept) : kept / 2 ^ g = F ∧ (kept % 2 ^ g = 0 ↔ r = 0) := by
  have hd : kept / 2 ^ g = F := Nat.div_eq_of_lt_le h1 h2
  refine ⟨hd, ?_⟩
  have hmod := Nat.div_add_mod kept (2 ^ g)
  rw [hd, Nat.mul_comm] at hmod
  constructor
  · intro h
    by_cases hz : r = 0
    · exact hz
    · have := h4 hz
      omega
  · intro h
    have := h3 h
    omega

set_option maxHeartbeats 2000000 in
/-- The core of the division by 65,521. -/
theorem div_core (s : Bool) (A : Nat) (h0 : A ≠ 0) (hA : A ≤ 2 ^ 50) : ∃ k kept, k ≤ 100 ∧ 2 ^ 52 ≤ kept ∧ kept < 2 ^ 53 ∧ kept / 2 ^ k = A / 65521 ∧ (kept % 2 ^ k = 0 ↔ A % 65521 = 0) ∧
    ((Datum.number s (A * 2 ^ (52 - A.log2)) ((A.log2 : Int) - 52)).quotient 54 (.number false (65521 * 2 ^ 37) (-37))).map double.write = some (double.word s (rungOf k kept)) := by
  have hlA : A.log2 ≤ 50 := by
    have : A.log2 < 51 := (Nat.log2_lt h0).2 (by omega)
    omega
  generalize hL : A.log2 = L at *
  have hb1 : 2 ^ L ≤ A := by rw [← hL]; exact Nat.log2_self_le h0
  have hb2 : A < 2 ^ (L + 1) := by rw [← hL]; exact Nat.lt_log2_self
  have hm : (A * 2 ^ (52 - L)).log2 = 52 := by rw [log2_mul_pow _ _ h0]; omega
  have hn : (65521 * 2 ^ 37).log2 = 52 := by decide
  -- the dividend
  obtain ⟨E, hE⟩ : ∃ E, E = A * 2 ^ (50 - L) := ⟨_, rfl⟩
  have hE1 : 2 ^ 50 ≤ E := by
    rw [hE]
    calc 2 ^ 50 = 2 ^ L * 2 ^ (50 - L) := by rw [← Nat.pow_add]; congr 1; omega
      _ ≤ _ := Nat.mul_le_mul_right _ hb1
  have hE2 : E < 2 ^ 51 := by
    rw [hE]
    calc A * 2 ^ (50 - L) < 2 ^ (L + 1) * 2 ^ (50 - L) := Nat.mul_lt_mul_of_pos_right hb2 (Nat.two_pow_pos _)
      _ = 2 ^ 51 := by rw [← Nat.pow_add]; congr 1; omega
  obtain ⟨B, hB⟩ : ∃ B, B = E * 524288 := ⟨_, rfl⟩
  have hdiv : (A * 2 ^ (52 - L)) <<< 54 = B * 2 ^ 37 := by
    have ee : 52 - L + 54 = 50 - L + (19 + 37) := by omega
    rw [Nat.shiftLeft_eq, hB, hE, show (524288 : Nat) = 2 ^ 19 from rfl, Nat.mul_assoc, Nat.mul_assoc, Nat.mul_assoc, ← Nat.pow_add, ← Nat.pow_add, ← Nat.pow_add, ee]
  obtain ⟨D, hD⟩ : ∃ D, D = B / 65521 := ⟨_, rfl⟩
  obtain ⟨t, ht⟩ : ∃ t, t = (B % 65521 != 0).toNat := ⟨_, rfl⟩
  have ht1 : t ≤ 1 := by rw [ht]; cases (B % 65521 != 0) <;> simp
  have ht0 : B % 65521 = 0 → t = 0 := by intro h; rw [ht, h]; rfl
  have hq : ((Datum.number s (A * 2 ^ (52 - L)) ((L : Int) - 52)).quotient 54 (.number false (65521 * 2 ^ 37) (-37))) = some (.number s (2 * D + t) ((L : Int) - 70)) := by
    unfold Datum.quotient
    simp only
    rw [if_neg (by decide), hm, hn, hdiv]
    have e1 : B * 2 ^ 37 / (65521 * 2 ^ 37) = D := by rw [hD]; exact Nat.mul_div_mul_right _ _ (by decide)
    have e2 : (B * 2 ^ 37 % (65521 * 2 ^ 37) != 0) = (B % 65521 != 0) := by
      rw [Nat.mul_mod_mul_right, Bool.eq_iff_iff, bne_iff_ne, bne_iff_ne]
      clear hE hb1 hb2 e1
      omega
    have e3 : ((L : Int) - 52 - -37 - ((54 + 52 - 52 : Nat) : Int) - 1) = (L : Int) - 70 := by omega
    rw [e1, e2, ← ht, e3, Bool.xor_false]
  rw [hq]
  show ∃ k kept, k ≤ 100 ∧ 2 ^ 52 ≤ kept ∧ kept < 2 ^ 53 ∧ kept / 2 ^ k = A / 65521 ∧ (kept % 2 ^ k = 0 ↔ A % 65521 = 0) ∧ some (double.nearest s (2 * D + t) ((L : Int) - 70)) = some (double.word s (rungOf k kept))
  obtain ⟨M, hM⟩ : ∃ M, M = 2 * D + t := ⟨_, rfl⟩
  rw [← hM]
  have hM0 : M ≠ 0 := by omega
  -- quotient and rest of A
  obtain ⟨F, hF⟩ : ∃ F, F = A / 65521 := ⟨_, rfl⟩
  obtain ⟨r, hr⟩ : ∃ r, r = A % 65521 := ⟨_, rfl⟩
  have hFr : A = 65521 * F + r := by omega
  have hr' : r < 65521 := by omega
  rw [← hF, ← hr]
  have nearest_eq := fun lg kept h1 h2 h3 h4 h5 h6 => nearest_at s M L lg kept hM0 hlA h1 h2 h3 h4 h5 h6
  have finish := finish_div F r
  by_cases hc : D < 2 ^ 54
  · -- two digits fall
    have hlg : M.log2 = 54 := log2_of (by omega) (by omega)
    obtain ⟨c, hc1, hc2, hc3, _⟩ := cut_even_small s M 2 (by omega)
    obtain ⟨kept, hk⟩ : ∃ kept, kept = M / 2 ^ 2 + c := ⟨_, rfl⟩
    have hG : 2 ^ 18 ≤ 2 ^ (68 - L) := Nat.pow_le_pow_right (by decide) (by omega)
    have hBG : B = A * (2 * 2 ^ (68 - L)) := by
      have ee : 50 - L + 19 = 1 + (68 - L) := by omega
      rw [hB, hE, show (524288 : Nat) = 2 ^ 19 from rfl, Nat.mul_assoc, ← Nat.pow_add, ee, Nat.pow_add, Nat.pow_one]
    have hBX : B = 131042 * (F * 2 ^ (68 - L)) + 2 * (r * 2 ^ (68 - L)) := by
      rw [hBG, hFr, Nat.add_mul]
      have e1 : 65521 * F * (2 * 2 ^ (68 - L)) = 131042 * (F * 2 ^ (68 - L)) := by
        rw [show (131042 : Nat) = 65521 * 2 from rfl]; ac_rfl
      have e2 : r * (2 * 2 ^ (68 - L)) = 2 * (r * 2 ^ (68 - L)) := by ac_rfl
      rw [e1, e2]
    have hrG : r * 2 ^ (68 - L) ≤ 65520 * 2 ^ (68 - L) := Nat.mul_le_mul_right _ (by omega)
    have hr0 : r = 0 → r * 2 ^ (68 - L) = 0 := by intro h; rw [h, Nat.zero_mul]
    have hr1 : r ≠ 0 → 2 ^ (68 - L) ≤ r * 2 ^ (68 - L) := fun h => Nat.le_mul_of_pos_left _ (by omega)
    have hF1 : (F + 1) * 2 ^ (68 - L) = F * 2 ^ (68 - L) + 2 ^ (68 - L) := by rw [Nat.add_mul, Nat.one_mul]
    have fin := finish (68 - L) kept
    rw [hF1] at fin
    clear hdiv hq finish hb1 hb2 hE hBG hF1
    generalize F * 2 ^ (68 - L) = X at *
    generalize r * 2 ^ (68 - L) = Y at *
    have hkk := nearest_eq 54 kept hlg (by omega) (by omega) (by rw [hc1, hk]) (by omega) (by omega)
    refine ⟨68 - L, kept, by omega, by omega, by omega, ?_⟩
    rw [show 122 - L - 54 = 68 - L from by omega] at hkk
    rw [hkk]
    generalize 2 ^ (68 - L) = G at *
    have hfin := fin (by omega) (by omega) (fun h => by
      have h1 := hr0 h
      have h2 := ht0 (by omega)
      omega) (fun h => by
      have h1 := hr1 h
      omega)
    exact ⟨hfin.1, hfin.2, rfl⟩
  · -- three digits fall
    have hlg : M.log2 = 55 := log2_of (by omega) (by omega)
    obtain ⟨c, hc1, hc2, hc3, _⟩ := cut_even_small s M 3 (by omega)
    obtain ⟨kept, hk⟩ : ∃ kept, kept = M / 2 ^ 3 + c := ⟨_, rfl⟩
    have hG : 2 ^ 17 ≤ 2 ^ (67 - L) := Nat.pow_le_pow_right (by decide) (by omega)
    have hBG : B = A * (4 * 2 ^ (67 - L)) := by
      have ee : 50 - L + 19 = 2 + (67 - L) := by omega
      rw [hB, hE, show (524288 : Nat) = 2 ^ 19 from rfl, Nat.mul_assoc, ← Nat.pow_add, ee, Nat.pow_add, show (2 : Nat) ^ 2 = 4 from rfl]
    have hBX : B = 262084 * (F * 2 ^ (67 - L)) + 4 * (r * 2 ^ (67 - L)) := by
      rw [hBG, hFr, Nat.add_mul]
      have e1 : 65521 * F * (4 * 2 ^ (67 - L)) = 262084 * (F * 2 ^ (67 - L)) := by
        rw [show (262084 : Nat) = 65521 * 4 from rfl]; ac_rfl
      have e2 : r * (4 * 2 ^ (67 - L)) = 4 * (r * 2 ^ (67 - L)) := by ac_rfl
      rw [e1, e2]
    have hrG : r * 2 ^ (67 - L) ≤ 65520 * 2 ^ (67 - L) := Nat.mul_le_mul_right _ (by omega)
    have hr0 : r = 0 → r * 2 ^ (67 - L) = 0 := by intro h; rw [h, Nat.zero_mul]
    have hr1 : r ≠ 0 → 2 ^ (67 - L) ≤ r * 2 ^ (67 - L) := fun h => Nat.le_mul_of_pos_left _ (by omega)
    have hF1 : (F + 1) * 2 ^ (67 - L) = F * 2 ^ (67 - L) + 2 ^ (67 - L) := by rw [Nat.add_mul, Nat.one_mul]
    have fin := finish (67 - L) kept
    rw [hF1] at fin
    clear hdiv hq finish hb1 hb2 hE hBG hF1
    generalize F * 2 ^ (67 - L) = X at *
    generalize r * 2 ^ (67 - L) = Y at *
    have hkk := nearest_eq 55 kept hlg (by omega) (by omega) (by rw [hc1, hk]) (by omega) (by omega)
    refine ⟨67 - L, kept, by omega, by omega, by omega, ?_⟩
    rw [show 122 - L - 55 = 67 - L from by omega] at hkk
    rw [hkk]
    generalize 2 ^ (67 - L) = G at *
    have hfin := fin (by omega) (by omega) (fun h => by
      have h1 := hr0 h
      have h2 := ht0 (by omega)
      omega) (fun h => by
      have h1 := hr1 h
      omega)
    exact ⟨hfin.1, hfin.2, rfl⟩


theorem fk_zero (k : Nat) : fk k 0 = 0 := by
  unfold fk
  simp [rungOf, Format.word]

/-- 'math.Floor(x / 65521)' of a whole x within 2^50. -/
theorem floor_div (a : Int) (ha : a.natAbs ≤ 2 ^ 50) : ∃ q, double.div (fk 0 a) (fk 0 65521) = some q ∧ double.write ((double.read q).integral .down) = fk 0 (a / 65521) ∧ (double.read q).isNaN = false := by
  by_cases h0 : a = 0
  · subst h0
    refine ⟨0, ?_, ?_, ?_⟩
    · rw [fk_zero]; decide
    · rw [show (0 : Int) / 65521 = 0 from rfl, fk_zero]; decide
    · decide
  have hA : a.natAbs ≠ 0 := by omega
  obtain ⟨k, kept, hk, h1, h2, h3, h4, h5⟩ := div_core (decide (a < 0)) a.natAbs hA ha
  -- the quotient's number
  obtain ⟨n, hn⟩ : ∃ n : Int, n = if a < 0 then -(kept : Int) else (kept : Int) := ⟨_, rfl⟩
  have hnA : n.natAbs = kept := by rw [hn]; split <;> omega
  have hns : decide (n < 0) = decide (a < 0) := by
    apply decide_eq_decide.2
    rw [hn]; split <;> omega
  have hq : double.div (fk 0 a) (fk 0 65521) = some (fk k n) := by
    unfold Format.div
    rw [read_prime, read_fk_at 0 a (by omega) h0 (by omega)]
    show Option.map double.write (Datum.quotient 54 _ _) = _
    have e : ((a.natAbs.log2 : Int) - 52 - ((0 : Nat) : Int)) = (a.natAbs.log2 : Int) - 52 := by omega
    rw [e, h5]
    unfold fk
    rw [hnA, hns]
  have hfl : n / ((2 ^ k : Nat) : Int) = a / 65521 := by
    have hpk := Nat.two_pow_pos k
    by_cases hneg : a < 0
    · have e1 : n = -(kept : Int) := by rw [hn, if_pos hneg]
      have e2 : a = -(a.natAbs : Int) := by omega
      rw [e1, floor_neg _ _ hpk, h3]
      have f2 := floor_neg a.natAbs 65521 (by decide)
      rw [show ((65521 : Nat) : Int) = 65521 from rfl, ← e2] at f2
      rw [f2]
      by_cases hz : a.natAbs % 65521 = 0
      · rw [if_pos hz, if_pos (h4.2 hz)]
      · rw [if_neg hz, if_neg (fun e => hz (h4.1 e))]
    · have e1 : n = (kept : Int) := by rw [hn, if_neg hneg]
      have e2 : a = (a.natAbs : Int) := by omega
      rw [e1, ← Int.natCast_ediv, h3]
      omega
  refine ⟨_, hq, ?_, ?_⟩
  · rw [floor_fk k n (by omega) (by omega) (by rw [hfl]; omega), hfl]
  · obtain ⟨m, p, e, _⟩ := read_fk k n (by omega) (by omega)
    rw [e]; rfl

/-- A whole number beyond 2^53 as a float: still beyond. -/
theorem big_V (n : Int) (h1 : 2 ^ 53 ≤ n.natAbs) (h2 : n.natAbs < 2 ^ 64) : ∃ n' : Int, V 0 (double.read (floatOfInt .f64 n)) n' ∧ 2 ^ 53 ≤ n'.natAbs ∧ (n' < 0 ↔ n < 0) := by
  have h0 : n.natAbs ≠ 0 := by omega
  have hl1 : 53 ≤ n.natAbs.log2 := by rw [Nat.le_log2 h0]; exact h1
  have hl2 : n.natAbs.log2 < 64 := (Nat.log2_lt h0).2 h2
  obtain ⟨c, hc1, hc2, _, _⟩ := cut_even_small (decide (n < 0)) n.natAbs (n.natAbs.log2 - 52) (by omega)
  have hq1 : n.natAbs / 2 ^ (n.natAbs.log2 - 52) < 2 ^ 53 := by
    rw [Nat.div_lt_iff_lt_mul (Nat.two_pow_pos _), ← Nat.pow_add]
    have : 53 + (n.natAbs.log2 - 52) = n.natAbs.log2 + 1 := by omega
    rw [this]; exact Nat.lt_log2_self
  have hq2 : 2 ^ 52 ≤ n.natAbs / 2 ^ (n.natAbs.log2 - 52) := by
    rw [Nat.le_div_iff_mul_le (Nat.two_pow_pos _), ← Nat.pow_add]
    have : 52 + (n.natAbs.log2 - 52) = n.natAbs.log2 := by omega
    rw [this]; exact Nat.log2_self_le h0
  obtain ⟨R, hR, hR1, hR2⟩ : ∃ R, floatOfInt .f64 n = double.word (decide (n < 0)) R ∧ 1076 * 2 ^ 52 ≤ R ∧ R < 2047 * 2 ^ 52 := by
    refine ⟨(n.natAbs.log2 - 52 + 1074) * 2 ^ 52 + (n.natAbs / 2 ^ (n.natAbs.log2 - 52) + c), ?_, ?_, ?_⟩
    · show double.nearest (decide (n < 0)) n.natAbs 0 = _
      unfold Format.nearest
      rw [if_neg h0]
      simp only [double_infRung, double_binade, double_leastPlace]
      have hlast : max ((0 : Int) + (n.natAbs.log2 : Int) - (double.fractionBits : Int)) (-1074) = (n.natAbs.log2 : Int) - 52 := by
        show max ((0 : Int) + (n.natAbs.log2 : Int) - 52) (-1074) = _
        omega
      rw [hlast]
      have e1 : ((0 : Int) - ((n.natAbs.log2 : Int) - 52)).toNat = 0 := by omega
      have e2 : ((n.natAbs.log2 : Int) - 52 - 0).toNat = n.natAbs.log2 - 52 := by omega
      have e3 : ((n.natAbs.log2 : Int) - 52 - (-1074)).toNat = n.natAbs.log2 - 52 + 1074 := by omega
      rw [e1, e2, e3, Nat.shiftLeft_zero, hc1]
      clear hc1 hlast e1 e2 e3
      generalize n.natAbs / 2 ^ (n.natAbs.log2 - 52) = q at *
      have hY : n.natAbs.log2 - 52 + 1074 ≤ 1085 := by omega
      generalize n.natAbs.log2 - 52 + 1074 = Y at *
      have h7 : Y * 2 ^ 52 + (q + c) ≤ 2047 * 2 ^ 52 := by omega
      rw [Nat.min_eq_left h7]
    · clear hc1
      generalize n.natAbs / 2 ^ (n.natAbs.log2 - 52) = q at *
      have hY : 1075 ≤ n.natAbs.log2 - 52 + 1074 := by omega
      generalize n.natAbs.log2 - 52 + 1074 = Y at *
      omega
    · clear hc1
      generalize n.natAbs / 2 ^ (n.natAbs.log2 - 52) = q at *
      have hY : n.natAbs.log2 - 52 + 1074 ≤ 1085 := by omega
      generalize n.natAbs.log2 - 52 + 1074 = Y at *
      omega
  clear hc1 hq1 hq2
  rw [hR, read_word _ _ (by omega), if_neg (by omega), if_pos hR2]
  obtain ⟨m, hm⟩ : ∃ m, m = 2 ^ 52 + R % 2 ^ 52 := ⟨_, rfl⟩
  obtain ⟨p, hp⟩ : ∃ p : Int, p = -1074 + ((R / 2 ^ 52 - 1 : Nat) : Int) := ⟨_, rfl⟩
  rw [← hm, ← hp]
  have hm1 : 2 ^ 52 ≤ m := by omega
  have hp1 : 1 ≤ p := by omega
  have hpw : 2 ≤ 2 ^ p.toNat := by
    calc 2 = 2 ^ 1 := rfl
      _ ≤ 2 ^ p.toNat := Nat.pow_le_pow_right (by decide) (by omega)
  have hv : 2 ^ 53 ≤ m * 2 ^ p.toNat := by
    calc 2 ^ 53 = 2 ^ 52 * 2 := by decide
      _ ≤ m * 2 ^ p.toNat := Nat.mul_le_mul hm1 hpw
  clear hR hm hR1 hR2
  obtain ⟨n', hn'⟩ : ∃ n' : Int, n' = if n < 0 then -((m * 2 ^ p.toNat : Nat) : Int) else ((m * 2 ^ p.toNat : Nat) : Int) := ⟨_, rfl⟩
  have hA : n'.natAbs = m * 2 ^ p.toNat := by rw [hn']; split <;> omega
  have hs : n' < 0 ↔ n < 0 := by rw [hn']; generalize m * 2 ^ p.toNat = X at *; split <;> omega
  refine ⟨n', ⟨m, p, ?_, ?_⟩, by rw [hA]; exact hv, hs⟩
  · rw [decide_eq_decide.2 hs]
  · unfold MV
    have : (-p).toNat = 0 := by omega
    rw [hA, this]

/-- Tests, in the walk's spelling. -/
theorem le_of_V {k : Nat} {x y : Nat} {a b : Int} (h1 : V k (double.read x) a) (h2 : V k (double.read y) b) : (FloatKind.f64.format.order x y == some .lt || FloatKind.f64.format.order x y == some .eq) = decide (a ≤ b) := by
  have h : FloatKind.f64.format.order x y = some (compare a b) := order_V h1 h2
  rw [h]
  simp only [compare, compareOfLessAndEq]
  by_cases hl : a < b
  · have h1 : a ≤ b := by omega
    rw [if_pos hl]; simp [h1]
  · rw [if_neg hl]
    by_cases he : a = b
    · have h1 : a ≤ b := by omega
      rw [if_pos he]; simp [h1]
    · have h1 : ¬ a ≤ b := by omega
      rw [if_neg he]; simp [h1]

theorem eq_of_V {k : Nat} {x y : Nat} {a b : Int} (h1 : V k (double.read x) a) (h2 : V k (double.read y) b) : (FloatKind.f64.format.order x y == some .eq) = decide (a = b) := by
  have h : FloatKind.f64.format.order x y = some (compare a b) := order_V h1 h2
  rw [h]
  simp only [compare, compareOfLessAndEq]
  by_cases hl : a < b
  · have h1 : ¬ a = b := by omega
    rw [if_pos hl]; simp [h1]
  · rw [if_neg hl]
    by_cases he : a = b
    · rw [if_pos he]; simp [he]
    · rw [if_neg he]; simp [he]

end Go.Proofs.Flo
