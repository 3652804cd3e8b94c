/-
  The contracts of strconv.ParseUint at base 16 and 32 bits (texts of eight bytes), and of gauss.Read.
-/
import Derived.Test.YtmamepmfbfinlaaGreatDoorHex2
import Derived.Test.YtmamepmfbfinlaaGreatDoorHex3
import Derived.Test.YtmamepmfbfinlaaGreatDoorShelf
import Derived.Lib.AtoiErrMem
namespace Go.Proofs.YtmamepmfbfinlaaGreatDoor
open Go.RowKit Go.Proofs.Flo Go.Proofs.Cpl

/-- The library's sentinel of form, as far as it is read. -/
def ErrAt (w : World) : Prop := (∃ ev, w.cell? ⟨1, 0, none⟩ = some ev ∧ (ev = .nilIface ∨ ∃ te pe, ev = .iface te pe)) ∧ 1 < w.heap.size

theorem ErrAt.below {w w' : World} (h : ErrAt w) (hb : Below w.heap.size w w') : ErrAt w' := by
  obtain ⟨⟨ev, h1, h2⟩, h3⟩ := h
  exact ⟨⟨ev, by rw [hb.cell h3]; exact h1, h2⟩, Nat.lt_of_lt_of_le h3 hb.size⟩

/-- What strconv.ParseUint tells. -/
def PuPost (o : Option Nat) (w : World) (e : Ending) (w' : World) : Prop :=
  ∃ v x, e = .returned (.tuple #[v, x]) ∧ (∀ n, o = some n → v = .int .u64 n ∧ x = .nilIface) ∧ (o = none → v = .int .u64 0 ∧ ∃ t p, x = .iface t p) ∧ Below w.heap.size w w'

set_option maxHeartbeats 400000 in
theorem puint16 (t : ByteArray) (h8 : t.size = 8) (w : World) (he : ErrAt w) :
    Calls Tryz.prog 58 #[.string t, .int .i64 16, .int .i64 32] w (PuPost (hexP 0 t.data.toList) w) := by
  have H := Lib.hid (ipuint16 t h8 w)
  have hb0 := Lib.bytesWorld_below w 5 t
  have he1 := he.below hb0
  clear he
  have hlim : t.size ≤ 281474976710656 := by omega
  have HB0 := Lib.hid hb0
  clear h8 hb0
  generalize Lib.bytesWorld w 5 t = W at *
  cases ho : hexP 0 t.data.toList with
  | some n =>
    rw [ho] at H
    clear he1
    go_enter Tryz.func58, Tryz.ntmps58
    go_wp2_with fail
    refine H.out.mono ?_
    rintro e w' ⟨rfl, rfl⟩
    unfold uintT
    go_wp2_with fail
    go_ret2
    exact ⟨_, _, rfl, (fun m hm => by cases hm; exact ⟨rfl, rfl⟩), (fun h => by cases h), HB0.out⟩
  | none =>
    rw [ho] at H
    obtain ⟨⟨ev, h1, h2⟩, h3⟩ := he1
    have HT := Lib.hid (Tryz.strconv_toError_syntax ⟨#[80, 97, 114, 115, 101, 85, 105, 110, 116]⟩ t 16 32 ev W hlim h1 h2)
    clear h1 h2 h3
    go_enter Tryz.func58, Tryz.ntmps58
    go_wp2_with fail
    refine H.out.mono ?_
    rintro e w' ⟨rfl, rfl⟩
    unfold uintT
    go_wp2_with fail
    refine HT.out.mono ?_
    rintro e w1 ⟨N, rfl, _, _, hb1⟩
    go_wp2_with fail
    go_ret2
    exact ⟨_, _, rfl, (fun m hm => by cases hm), (fun _ => ⟨rfl, _, _, rfl⟩), HB0.out.trans (hb1.mono HB0.out.size)⟩


/-- The text of a pair, read as a number. -/
theorem hexd_dg (d : Nat) (h : d < 16) : hexd (UInt8.ofNat (dg d).toNat) = some d := by
  rcases d with _|_|_|_|_|_|_|_|_|_|_|_|_|_|_|_|d
  all_goals first | (exfalso; omega) | rfl

theorem hexP_text (a b : Nat) (ha : a < 65536) (hb : b < 65536) : hexP 0 (strN (fourL a ++ fourL b)).data.toList = some (a * 65536 + b) := by
  have e : (strN (fourL a ++ fourL b)).data.toList = (fourL a ++ fourL b).map fun x => UInt8.ofNat x.toNat := rfl
  rw [e]
  unfold fourL
  simp only [List.cons_append, List.nil_append, List.map_cons, List.map_nil, hexP]
  rw [hexd_dg _ (by omega), hexd_dg _ (by omega), hexd_dg _ (by omega), hexd_dg _ (by omega), hexd_dg _ (by omega), hexd_dg _ (by omega), hexd_dg _ (by omega), hexd_dg _ (by omega)]
  simp only [Option.bind_some]
  congr 1
  omega

theorem hexd_lt {c : UInt8} {d : Nat} (h : hexd c = some d) : d < 16 := by
  unfold hexd at h
  split at h
  · cases h; omega
  · split at h
    · cases h; omega
    · split at h
      · cases h; omega
      · cases h

theorem hexP_lt (l : List UInt8) (acc n : Nat) (h : hexP acc l = some n) : n < (acc + 1) * 16 ^ l.length := by
  induction l generalizing acc with
  | nil => cases h; simp
  | cons c l ih =>
    unfold hexP at h
    cases hc : hexd c with
    | none => rw [hc] at h; cases h
    | some d =>
      rw [hc] at h
      have hd := hexd_lt hc
      have h1 := ih (acc * 16 + d) h
      have h2 : (acc * 16 + d + 1) * 16 ^ l.length ≤ ((acc + 1) * 16) * 16 ^ l.length := Nat.mul_le_mul_right _ (by omega)
      rw [List.length_cons, Nat.pow_succ, Nat.mul_comm (16 ^ l.length) 16, ← Nat.mul_assoc]
      omega

theorem text_size (p : Int × Int) : (strN (textL p)).size = 8 := by rw [strN_size]; rfl

theorem and16 (n : Nat) (h : n < 4294967296) : bits BinOp.and IntKind.u64 (n : Int) 65535 = ((n % 65536 : Nat) : Int) := by
  have e := bits_and_u64_nat n 65535 (by omega) (by omega)
  rw [show ((65535 : Nat) : Int) = 65535 from rfl] at e
  rw [e, show (65535 : Nat) = 2 ^ 16 - 1 from rfl, Nat.and_two_pow_sub_one_eq_mod]

/-- The text is one of a pair that may be. -/
def IsText (t : ByteArray) (p : Int × Int) : Prop := Ok p ∧ t = strN (textL p)

theorem IsText.one {t : ByteArray} {p q : Int × Int} (h1 : IsText t p) (h2 : IsText t q) : p = q := by
  obtain ⟨ho1, e1⟩ := h1
  obtain ⟨ho2, e2⟩ := h2
  obtain ⟨a, b, rfl, ha, hb⟩ := ok_nat ho1
  obtain ⟨c, d, rfl, hc, hd⟩ := ok_nat ho2
  have h1 := hexP_text a b (by omega) (by omega)
  have h2 := hexP_text c d (by omega) (by omega)
  have e : strN (fourL a ++ fourL b) = strN (fourL c ++ fourL d) := by rw [e1] at e2; exact e2
  rw [e, h2] at h1
  have h3 := Option.some.inj h1
  have : c = a ∧ d = b := by omega
  rw [this.1, this.2]

set_option maxHeartbeats 400000 in
theorem gread_yes (t : ByteArray) (p : Int × Int) (hp : IsText t p) (w : World) (ht : TzAt w) (he : ErrAt w) :
    Calls Tryz.prog 39 #[.string t] w fun e w' => e = .returned (.tuple #[.complex .f64 (fk 0 p.1) (fk 0 p.2), .bool true]) ∧ Below w.heap.size w w' := by
  obtain ⟨ho, htx⟩ := hp
  have h8 : t.size = 8 := by rw [htx]; exact text_size p
  have H := Lib.hid (puint16 t h8 w he)
  obtain ⟨a, b, rfl, ha, hb⟩ := ok_nat ho
  have hx : hexP 0 t.data.toList = some (a * 65536 + b) := by rw [htx]; exact hexP_text a b (by omega) (by omega)
  rw [hx] at H
  have HT := Lib.hid ht
  have G := Lib.hid (gtext ((a : Int), (b : Int)) ho)
  have HTX := Lib.hid htx
  clear hx ht he htx ho
  have h8' : (t.size : Int) = 8 := by omega
  have k1 : (a * 65536 + b) / 65536 = a := by omega
  have k2 : (a * 65536 + b) % 65536 = b := by omega
  have q1 := and16 (a * 65536 + b) (by omega)
  rw [k2] at q1
  have q0 : ((a * 65536 + b : Nat) : Int) / 65536 = (a : Int) := by omega
  have f1 : floatOfInt .f64 (a : Int) = fk 0 (a : Int) := floatOfInt_eq _ (by omega)
  have f2 : floatOfInt .f64 (b : Int) = fk 0 (b : Int) := floatOfInt_eq _ (by omega)
  generalize a * 65536 + b = n at *
  clear k1 k2
  go_enter Tryz.func39, Tryz.ntmps39
  go_wp2_with fail
  refine H.out.mono ?_
  rintro e w1 ⟨v, x, rfl, hs, _, hb1⟩
  obtain ⟨rfl, rfl⟩ := hs n rfl
  go_wp2_with fail
  refine (G.out w1 (HT.out.below hb1)).mono ?_
  rintro e w2 ⟨rfl, hb2⟩
  rw [← HTX.out]
  go_wp2_with fail
  go_ret2
  exact ⟨rfl, hb1.trans (hb2.mono hb1.size)⟩


theorem not_toList {a b : ByteArray} (h : a ≠ b) : (a.toList == b.toList) = false := by
  rw [beq_eq_false_iff_ne]
  intro e
  rw [ByteArray.toList_eq, ByteArray.toList_eq] at e
  exact h (ByteArray.ext (Array.toList_inj.1 e))

set_option maxHeartbeats 400000 in
theorem gread_no (t : ByteArray) (hno : ∀ p, ¬ IsText t p) (w : World) (ht : TzAt w) (he : ErrAt w) :
    Calls Tryz.prog 39 #[.string t] w fun e w' => e = .returned (.tuple #[.complex .f64 0 0, .bool false]) ∧ Below w.heap.size w w' := by
  by_cases h8 : t.size = 8
  · have H := Lib.hid (puint16 t h8 w he)
    have HT := Lib.hid ht
    have h8' : (t.size : Int) = 8 := by omega
    cases ho : hexP 0 t.data.toList with
    | none =>
      rw [ho] at H
      clear ho ht he hno
      go_enter Tryz.func39, Tryz.ntmps39
      go_wp2_with fail
      refine H.out.mono ?_
      rintro e w1 ⟨v, x, rfl, _, hs, hb1⟩
      obtain ⟨rfl, tt, pp, rfl⟩ := hs rfl
      go_wp2_with fail
      go_ret2
      exact ⟨rfl, hb1⟩
    | some n =>
      rw [ho] at H
      have hn := hexP_lt _ _ _ ho
      rw [show t.data.toList.length = 8 from h8] at hn
      have hn' : n < 4294967296 := by omega
      obtain ⟨a, ha⟩ : ∃ a, n / 65536 = a := ⟨_, rfl⟩
      obtain ⟨b, hb⟩ : ∃ b, n % 65536 = b := ⟨_, rfl⟩
      have q1 := and16 n hn'
      rw [hb] at q1
      have q0 : (n : Int) / 65536 = (a : Int) := by omega
      have f1 : floatOfInt .f64 (a : Int) = fk 0 (a : Int) := floatOfInt_eq _ (by omega)
      have f2 : floatOfInt .f64 (b : Int) = fk 0 (b : Int) := floatOfInt_eq _ (by omega)
      have ha' : a < 65536 := by omega
      have hb' : b < 65536 := by omega
      by_cases hok : Ok ((a : Int), (b : Int))
      · have hne : strN (textL ((a : Int), (b : Int))) ≠ t := fun h => hno _ ⟨hok, h.symm⟩
        have G := Lib.hid (gtext ((a : Int), (b : Int)) hok)
        have HN := not_toList hne
        clear hno ht he ho ha hb hn hne hok
        generalize strN (textL ((a : Int), (b : Int))) = s at *
        go_enter Tryz.func39, Tryz.ntmps39
        go_wp2_with fail
        refine H.out.mono ?_
        rintro e w1 ⟨v, x, rfl, hs, _, hb1⟩
        obtain ⟨rfl, rfl⟩ := hs n rfl
        go_wp2_with fail
        refine (G.out w1 (HT.out.below hb1)).mono ?_
        rintro e w2 ⟨rfl, hb2⟩
        go_wp2_with fail
        go_ret2
        exact ⟨rfl, hb1.trans (hb2.mono hb1.size)⟩
      · have va := VW_fk 0 (a : Int) (by omega) (by omega)
        have vb := VW_fk 0 (b : Int) (by omega) (by omega)
        have hm : mayB (fk 0 (a : Int)) (fk 0 (b : Int)) = false := by
          rw [mayB_int _ _ (by omega) (by omega)]
          exact decide_eq_false hok
        have G := Lib.hid (gtext_not _ _ va.nan vb.nan hm)
        have hne : (⟨#[]⟩ : ByteArray) ≠ t := fun h => by rw [← h] at h8; cases h8
        have HN := not_toList hne
        rw [show (⟨#[]⟩ : ByteArray).toList = [] from by rw [ByteArray.toList_eq]] at HN
        clear hno ht he ho ha hb hn hok va vb hm hne
        go_enter Tryz.func39, Tryz.ntmps39
        go_wp2_with fail
        refine H.out.mono ?_
        rintro e w1 ⟨v, x, rfl, hs, _, hb1⟩
        obtain ⟨rfl, rfl⟩ := hs n rfl
        go_wp2_with fail
        refine (G.out w1).mono ?_
        rintro e w2 ⟨rfl, rfl⟩
        go_wp2_with fail
        go_ret2
        exact ⟨rfl, hb1⟩
  · have h8' : ((t.size : Int) == 8) = false := by rw [beq_eq_false_iff_ne]; omega
    clear ht he hno
    go_enter Tryz.func39, Tryz.ntmps39
    go_wp2_with fail
    go_ret2
    exact ⟨rfl, Below.refl _ _⟩

end Go.Proofs.YtmamepmfbfinlaaGreatDoor
