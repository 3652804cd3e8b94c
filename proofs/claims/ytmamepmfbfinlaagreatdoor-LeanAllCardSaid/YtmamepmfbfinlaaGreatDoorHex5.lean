/-
  The contract of the reference's Read, and of the law's reads.
-/
import Derived.Test.YtmamepmfbfinlaaGreatDoorHex4
namespace Go.Proofs.YtmamepmfbfinlaaGreatDoor
open Go.RowKit Go.Proofs.Flo Go.Proofs.Cpl

/-- A digit of base 16, small letters alone. -/
def hexl (c : UInt8) : Option Nat :=
  if 48 ≤ c.toNat ∧ c.toNat ≤ 57 then some (c.toNat - 48) else if 97 ≤ c.toNat ∧ c.toNat ≤ 102 then some (c.toNat - 87) else none

def rr (k a b : Nat) : List UInt8 → Option (Nat × Nat)
  | [] => some (a, b)
  | c :: l => (hexl c).bind fun d => if k < 4 then rr (k + 1) (a * 16 + d) b l else rr (k + 1) a (b * 16 + d) l

theorem hexl_dg (d : Nat) (h : d < 16) : hexl (UInt8.ofNat (dg d).toNat) = some d := by
  rcases d with _|_|_|_|_|_|_|_|_|_|_|_|_|_|_|_|d
  all_goals first | (exfalso; omega) | rfl

theorem hexl_inv {c : UInt8} {d : Nat} (h : hexl c = some d) : d < 16 ∧ c = UInt8.ofNat (dg d).toNat := by
  unfold hexl at h
  split at h
  · cases h
    refine ⟨by omega, ?_⟩
    apply UInt8.toNat_inj.1
    unfold dg
    rw [if_pos (by omega)]
    rw [UInt8.toNat_ofNat']
    omega
  · split at h
    · cases h
      refine ⟨by omega, ?_⟩
      apply UInt8.toNat_inj.1
      unfold dg
      rw [if_neg (by omega)]
      rw [UInt8.toNat_ofNat']
      omega
    · cases h

theorem rr_text (a b : Nat) (ha : a < 65536) (hb : b < 65536) : rr 0 0 0 (strN (fourL a ++ fourL b)).data.toList = some (a, b) := by
  have e : (strN (fourL a ++ fourL b)).data.toList = (fourL a ++ fourL b).map fun x => UInt8.ofNat x.toNat := rfl
  rw [e]
  unfold fourL
  simp only [List.cons_append, List.nil_append, List.map_cons, List.map_nil, rr]
  rw [hexl_dg _ (by omega), hexl_dg _ (by omega), hexl_dg _ (by omega), hexl_dg _ (by omega), hexl_dg _ (by omega), hexl_dg _ (by omega), hexl_dg _ (by omega), hexl_dg _ (by omega)]
  simp
  omega

theorem rr_cons {k a b : Nat} {c : UInt8} {l : List UInt8} {r : Nat × Nat} (h : rr k a b (c :: l) = some r) : ∃ d, d < 16 ∧ c = UInt8.ofNat (dg d).toNat ∧ (if k < 4 then rr (k + 1) (a * 16 + d) b l else rr (k + 1) a (b * 16 + d) l) = some r := by
  unfold rr at h
  cases hc : hexl c with
  | none => rw [hc] at h; cases h
  | some d =>
    rw [hc] at h
    obtain ⟨h1, h2⟩ := hexl_inv hc
    exact ⟨d, h1, h2, h⟩

theorem rr_inv {t : ByteArray} (h8 : t.size = 8) {a b : Nat} (h : rr 0 0 0 t.data.toList = some (a, b)) : a < 65536 ∧ b < 65536 ∧ t = strN (fourL a ++ fourL b) := by
  have hl : t.data.toList.length = 8 := h8
  have ht : t = ⟨t.data.toList.toArray⟩ := by cases t; simp
  generalize t.data.toList = l at *
  obtain ⟨c0, l, rfl⟩ : ∃ c l', l = c :: l' := by cases l with | nil => cases hl | cons c l => exact ⟨c, l, rfl⟩
  obtain ⟨c1, l, rfl⟩ : ∃ c l', l = c :: l' := by cases l with | nil => cases hl | cons c l => exact ⟨c, l, rfl⟩
  obtain ⟨c2, l, rfl⟩ : ∃ c l', l = c :: l' := by cases l with | nil => cases hl | cons c l => exact ⟨c, l, rfl⟩
  obtain ⟨c3, l, rfl⟩ : ∃ c l', l = c :: l' := by cases l with | nil => cases hl | cons c l => exact ⟨c, l, rfl⟩
  obtain ⟨c4, l, rfl⟩ : ∃ c l', l = c :: l' := by cases l with | nil => cases hl | cons c l => exact ⟨c, l, rfl⟩
  obtain ⟨c5, l, rfl⟩ : ∃ c l', l = c :: l' := by cases l with | nil => cases hl | cons c l => exact ⟨c, l, rfl⟩
  obtain ⟨c6, l, rfl⟩ : ∃ c l', l = c :: l' := by cases l with | nil => cases hl | cons c l => exact ⟨c, l, rfl⟩
  obtain ⟨c7, l, rfl⟩ : ∃ c l', l = c :: l' := by cases l with | nil => cases hl | cons c l => exact ⟨c, l, rfl⟩
  obtain rfl : l = [] := by cases l with | nil => rfl | cons c l => simp at hl
  obtain ⟨d0, i0, rfl, g0⟩ := rr_cons h
  rw [if_pos (by decide)] at g0
  obtain ⟨d1, i1, rfl, g1⟩ := rr_cons g0
  rw [if_pos (by decide)] at g1
  obtain ⟨d2, i2, rfl, g2⟩ := rr_cons g1
  rw [if_pos (by decide)] at g2
  obtain ⟨d3, i3, rfl, g3⟩ := rr_cons g2
  rw [if_pos (by decide)] at g3
  obtain ⟨d4, i4, rfl, g4⟩ := rr_cons g3
  rw [if_neg (by decide)] at g4
  obtain ⟨d5, i5, rfl, g5⟩ := rr_cons g4
  rw [if_neg (by decide)] at g5
  obtain ⟨d6, i6, rfl, g6⟩ := rr_cons g5
  rw [if_neg (by decide)] at g6
  obtain ⟨d7, i7, rfl, g7⟩ := rr_cons g6
  rw [if_neg (by decide)] at g7
  have hab := Option.some.inj g7
  have ha : (((0 * 16 + d0) * 16 + d1) * 16 + d2) * 16 + d3 = a := (Prod.mk.inj hab).1
  have hb : (((0 * 16 + d4) * 16 + d5) * 16 + d6) * 16 + d7 = b := (Prod.mk.inj hab).2
  refine ⟨by omega, by omega, ?_⟩
  rw [ht]
  have e0 : a / 4096 % 16 = d0 := by omega
  have e1 : a / 256 % 16 = d1 := by omega
  have e2 : a / 16 % 16 = d2 := by omega
  have e3 : a % 16 = d3 := by omega
  have e4 : b / 4096 % 16 = d4 := by omega
  have e5 : b / 256 % 16 = d5 := by omega
  have e6 : b / 16 % 16 = d6 := by omega
  have e7 : b % 16 = d7 := by omega
  unfold fourL
  rw [e0, e1, e2, e3, e4, e5, e6, e7]
  rfl

theorem At.set0 {w : World} {b : Nat} {p : Int × Int} (h : At w b p) (x : Int) : At (w.setCell ⟨b, 0, none⟩ (.int .i64 x)) b (x, p.2) := by
  obtain ⟨⟨c0, c1⟩, ⟨z0, z1⟩, hs⟩ := h
  refine ⟨⟨?_, ?_⟩, ⟨?_, ?_⟩, ?_⟩
  · go_simp
  · go_simp
  · go_simp
  · go_simp
  · simpa using hs

theorem At.set1 {w : World} {b : Nat} {p : Int × Int} (h : At w b p) (x : Int) : At (w.setCell ⟨b, 1, none⟩ (.int .i64 x)) b (p.1, x) := by
  obtain ⟨⟨c0, c1⟩, ⟨z0, z1⟩, hs⟩ := h
  refine ⟨⟨?_, ?_⟩, ⟨?_, ?_⟩, ?_⟩
  · go_simp
  · go_simp
  · go_simp
  · go_simp
  · simpa using hs

theorem At.past {w : World} {b c i : Nat} {p : Int × Int} (h : At w b p) (hc : b ≠ c) (x : Value) : At (w.setCell ⟨c, i, none⟩ x) b p := by
  obtain ⟨⟨c0, c1⟩, ⟨z0, z1⟩, hs⟩ := h
  have hne : ∀ i j, (⟨c, i, none⟩ : Addr) ≠ ⟨b, j, none⟩ := fun i j e => hc (Addr.mk.inj e).1.symm
  refine ⟨⟨?_, ?_⟩, ⟨?_, ?_⟩, ?_⟩
  · go_simp
  · go_simp
  · go_simp
  · go_simp
  · simpa using hs

/-- What the reference answers. -/
theorem rr_is {t : ByteArray} (h8 : t.size = 8) {a b : Nat} (h : rr 0 0 0 t.data.toList = some (a, b)) (ha : a < 65521) (hb : b < 65521) : IsText t ((a : Int), (b : Int)) := by
  obtain ⟨_, _, e⟩ := rr_inv h8 h
  exact ⟨⟨⟨by omega, by omega⟩, ⟨by omega, by omega⟩⟩, e⟩

theorem is_rr {t : ByteArray} {p : Int × Int} (h : IsText t p) : t.size = 8 ∧ ∃ a b : Nat, p = ((a : Int), (b : Int)) ∧ a < 65521 ∧ b < 65521 ∧ rr 0 0 0 t.data.toList = some (a, b) := by
  obtain ⟨ho, rfl⟩ := h
  obtain ⟨a, b, rfl, ha, hb⟩ := ok_nat ho
  exact ⟨text_size _, a, b, rfl, by omega, by omega, rr_text a b (by omega) (by omega)⟩

/-- What the reference's Read tells. -/
def RrPost (t : ByteArray) (w : World) (e : Ending) (w' : World) : Prop :=
  ∃ (p : Int × Int) (ok : Bool), e = .returned (.tuple #[.agg #[.int .i64 p.1, .int .i64 p.2], .bool ok]) ∧ (∀ q, IsText t q → p = q ∧ ok = true) ∧ ((∀ q, ¬ IsText t q) → p = (0, 0) ∧ ok = false) ∧ Below w.heap.size w w'

theorem RrPost.no {t : ByteArray} {w w' : World} (h : ∀ q, ¬ IsText t q) (hb : Below w.heap.size w w') : RrPost t w (.returned (.tuple #[.agg #[.int .i64 0, .int .i64 0], .bool false])) w' :=
  ⟨(0, 0), false, rfl, fun q hq => absurd hq (h q), fun _ => ⟨rfl, rfl⟩, hb⟩

theorem RrPost.yes {t : ByteArray} {w w' : World} {p : Int × Int} (h : IsText t p) (hb : Below w.heap.size w w') : RrPost t w (.returned (.tuple #[.agg #[.int .i64 p.1, .int .i64 p.2], .bool true])) w' :=
  ⟨p, true, rfl, fun _ hq => ⟨h.one hq, rfl⟩, fun hn => absurd h (hn p), hb⟩

end Go.Proofs.YtmamepmfbfinlaaGreatDoor
