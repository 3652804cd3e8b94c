/-
  The contract of the reference's Read, and of the law's reads.
-/
import Derived.Test.YtamennoehnigaaaDoorHex4
namespace Go.Proofs.YtamennoehnigaaaDoor
open Go.RowKit Go.Proofs.Flo Go.Proofs.Cpl

/-- A digit of base 16, small letters alone. -/
def hexl (c : UInt8) : Option Nat :=
  if 48 ≤ c.toNat ∧ c.toNat ≤ 57 then some (c.toNat - 48) else if 97 ≤ c.toNat ∧ c.toNat ≤ 102 then some (c.toNat - 87) else none

def rr (k a b : Nat) : List UInt8 → Option (Nat × Nat)
  | [] => some (a, b)
  | c :: l => (hexl c).bind fun d => if k < 4 then rr (k + 1) (a * 16 + d) b l else rr (k + 1) a (b * 16 + d) l

theorem hexl_dg (d : Nat) (h : d < 16) : hexl (UInt8.ofNat (dg d).toNat) = some d := by
  rcases d with _|_|_|_|_|_|_|_|_|_|_|_|_|_|_|_|d
  all_goals first | (exfalso; omega) | rfl

theorem hexl_inv {c : UInt8} {d : Nat} (h : hexl c = some d) : d < 16 ∧ c = UInt8.ofNat (dg d).toNat := by
  unfold hexl at h
  split at h
  · cases h
    refine ⟨by omega, ?_⟩
    apply UInt8.toNat_inj.1
    unfold dg
    rw [if_pos (by omega)]
    rw [UInt8.toNat_ofNat']
    omega
  · split at h
    · cases h
      refine ⟨by omega, ?_⟩
      apply UInt8.toNat_inj.1
      unfold dg
      rw [if_neg (by omega)]
      rw [UInt8.toNat_ofNat']
      omega
    · cases h

theorem rr_text (a b : Nat) (ha : a < 65536) (hb : b < 65536) : rr 0 0 0 (strN (fourL a ++ fourL b)).data.toList = some (a, b) := by
  have e : (strN (fourL a ++ fourL b)).data.toList = (fourL a ++ fourL b).map fun x => UInt8.ofNat x.toNat := rfl
  rw [e]
  unfold fourL
  simp only [List.cons_append, List.nil_append, List.map_cons, List.map_nil, rr]
  rw [hexl_dg _ (by omega), hexl_dg _ (by omega), hexl_dg _ (by omega), hexl_dg _ (by omega), hexl_dg _ (by omega), hexl_dg _ (by omega), hexl_dg _ (by omega), hexl_dg _ (by omega)]
  simp
  omega

theorem rr_cons {k a b : Nat} {c : UInt8} {l : List UInt8} {r : Nat × Nat} (h : rr k a b (c :: l) = some r) : ∃ d, d < 16 ∧ c = UInt8.ofNat (dg d).toNat ∧ (if k < 4 then rr (k + 1) (a * 16 + d) b l else rr (k + 1) a (b * 16 + d) l) = some r := by
  unfold rr at h
  cases hc : hexl c with
  | none => rw [hc] at h; cases h
  | some d =>
    rw [hc] at h
    obtain ⟨h1, h2⟩ := hexl_inv hc
    exact ⟨d, h1, h2, h⟩

theorem rr_inv {t : ByteArray} (h8 : t.size = 8) {a b : Nat} (h : rr 0 0 0 t.data.toList = some (a, b)) : a < 65536 ∧ b < 65536 ∧ t = strN (fourL a ++ fourL b) := by
  have hl : t.data.toList.length = 8 := h8
  have ht : t = ⟨t.data.toList.toArray⟩ := by cases t; simp
  generalize t.data.toList = l at *
  obtain ⟨c0, l, rfl⟩ : ∃ c l', l = c :: l' := by cases l with | nil => cases hl | cons c l => exact ⟨c, l, rfl⟩
  obtain ⟨c1, l, rfl⟩ : ∃ c l', l = c :: l' := by cases l with | nil => cases hl | cons c l => exact ⟨c, l, rfl⟩
  obtain ⟨c2, l, rfl⟩ : ∃ c l', l = c :: l' := by cases l with | nil => cases hl | cons c l => exact ⟨c, l, rfl⟩
  obtain ⟨c3, l, rfl⟩ : ∃ c l', l = c :: l' := by cases l with | nil => cases hl | cons c l => exact ⟨c, l, rfl⟩
  obtain ⟨c4, l, rfl⟩ : ∃ c l', l = c :: l' := by cases l with | nil => cases hl | cons c l => exact ⟨c, l, rfl⟩
  obtain ⟨c5, l, rfl⟩ : ∃ c l', l = c :: l' := by cases l with | nil => cases hl | cons c l => exact ⟨c, l, rfl⟩
  obtain ⟨c6, l, rfl⟩ : ∃ c l', l = c :: l' := by cases l with | nil => cases hl | cons c l => exact ⟨c, l, rfl⟩
  obtain ⟨c7, l, rfl⟩ : ∃ c l', l = c :: l' := by cases l with | nil => cases hl | cons c l => exact ⟨c, l, rfl⟩
  obtain rfl : l = [] := by cases l with | nil => rfl | cons c l => simp at hl
  obtain ⟨d0, i0, rfl, g0⟩ := rr_cons h
  rw [if_pos (by decide)] at g0
  obtain ⟨d1, i1, rfl, g1⟩ := rr_cons g0
  rw [if_pos (by decide)] at g1
  obtain ⟨d2, i2, rfl, g2⟩ := rr_cons g1
  rw [if_pos (by decide)] at g2
  obtain ⟨d3, i3, rfl, g3⟩ := rr_cons g2
  rw [if_pos (by decide)] at g3
  obtain ⟨d4, i4, rfl, g4⟩ := rr_cons g3
  rw [if_neg (by decide)] at g4
  obtain ⟨d5, i5, rfl, g5⟩ := rr_cons g4
  rw [if_neg (by decide)] at g5
  obtain ⟨d6, i6, rfl, g6⟩ := rr_cons g5
  rw [if_neg (by decide)] at g6
  obtain ⟨d7, i7, rfl, g7⟩ := rr_cons g6
  rw [if_neg (by decide)] at g7
  have hab := Option.some.inj g7
  have ha : (((0 * 16 + d0) * 16 + d1) * 16 + d2) * 16 + d3 = a := (Prod.mk.inj hab).1
  have hb : (((0 * 16 + d4) * 16 + d5) * 16 + d6) * 16 + d7 = b := (Prod.mk.inj hab).2
  refine ⟨by omega, by omega, ?_⟩
  rw [ht]
  have e0 : a / 4096 % 16 = d0 := by omega
  have e1 : a / 256 % 16 = d1 := by omega
  have e2 : a / 16 % 16 = d2 := by omega
  have e3 : a % 16 = d3 := by omega
  have e4 : b / 4096 % 16 = d4 := by omega
  have e5 : b / 256 % 16 = d5 := by omega
  have e6 : b / 16 % 16 = d6 := by omega
  have e7 : b % 16 = d7 := by omega
  unfold fourL
  rw [e0, e1, e2, e3, e4, e5, e6, e7]
  rfl

theorem At.set0 {w : World} {b : Nat} {p : Int × Int} (h : At w b p) (x : Int) : At (w.setCell ⟨b, 0, none⟩ (.int .i64 x)) b (x, p.2) := by
  obtain ⟨⟨c0, c1⟩, ⟨z0, z1⟩, hs⟩ := h
  refine ⟨⟨?_, ?_⟩, ⟨?_, ?_⟩, ?_⟩
  · go_simp
  · go_simp
  · go_simp
  · go_simp
  · simpa using hs

theorem At.set1 {w : World} {b : Nat} {p : Int × Int} (h : At w b p) (x : Int) : At (w.setCell ⟨b, 1, none⟩ (.int .i64 x)) b (p.1, x) := by
  obtain ⟨⟨c0, c1⟩, ⟨z0, z1⟩, hs⟩ := h
  refine ⟨⟨?_, ?_⟩, ⟨?_, ?_⟩, ?_⟩
  · go_simp
  · go_simp
  · go_simp
  · go_simp
  · simpa using hs

theorem At.past {w : World} {b c i : Nat} {p : Int × Int} (h : At w b p) (hc : b ≠ c) (x : Value) : At (w.setCell ⟨c, i, none⟩ x) b p := by
  obtain ⟨⟨c0, c1⟩, ⟨z0, z1⟩, hs⟩ := h
  have hne : ∀ i j, (⟨c, i, none⟩ : Addr) ≠ ⟨b, j, none⟩ := fun i j e => hc (Addr.mk.inj e).1.symm
  refine ⟨⟨?_, ?_⟩, ⟨?_, ?_⟩, ?_⟩
  · go_simp
  · go_simp
  · go_simp
  · go_simp
  · simpa using hs

/-- What the reference answers. -/
theorem rr_is {t : ByteArray} (h8 : t.size = 8) {a b : Nat} (h : rr 0 0 0 t.data.toList = some (a, b)) (ha : a < 65521) (hb : b < 65521) : IsText t ((a : Int), (b : Int)) := by
  obtain ⟨_, _, e⟩ := rr_inv h8 h
  exact ⟨⟨⟨by omega, by omega⟩, ⟨by omega, by omega⟩⟩, e⟩

theorem is_rr {t : ByteArray} {p : Int × Int} (h : IsText t p) : t.size = 8 ∧ ∃ a b : Nat, p = ((a : Int), (b : Int)) ∧ a < 65521 ∧ b < 65521 ∧ rr 0 0 0 t.data.toList = some (a, b) := by
  obtain ⟨ho, rfl⟩ := h
  obtain ⟨a, b, rfl, ha, hb⟩ := ok_nat ho
  exact ⟨text_size _, a, b, rfl, by omega, by omega, rr_text a b (by omega) (by omega)⟩

/-- What the reference's Read tells. -/
def RrPost (t : ByteArray) (w : World) (e : Ending) (w' : World) : Prop :=
  ∃ (p : Int × Int) (ok : Bool), e = .returned (.tuple #[.agg #[.int .i64 p.1, .int .i64 p.2], .bool ok]) ∧ (∀ q, IsText t q → p = q ∧ ok = true) ∧ ((∀ q, ¬ IsText t q) → p = (0, 0) ∧ ok = false) ∧ Below w.heap.size w w'

theorem RrPost.no {t : ByteArray} {w w' : World} (h : ∀ q, ¬ IsText t q) (hb : Below w.heap.size w w') : RrPost t w (.returned (.tuple #[.agg #[.int .i64 0, .int .i64 0], .bool false])) w' :=
  ⟨(0, 0), false, rfl, fun q hq => absurd hq (h q), fun _ => ⟨rfl, rfl⟩, hb⟩

theorem RrPost.yes {t : ByteArray} {w w' : World} {p : Int × Int} (h : IsText t p) (hb : Below w.heap.size w w') : RrPost t w (.returned (.tuple #[.agg #[.int .i64 p.1, .int .i64 p.2], .bool true])) w' :=
  ⟨p, true, rfl, fun _ hq => ⟨h.one hq, rfl⟩, fun hn => absurd h (hn p), hb⟩

set_option maxRecDepth 100000 in
set_option maxHeartbeats 1600000 in
theorem rread (t : ByteArray) (w : World) :
    Calls Tryd.prog 55 #[.string t] w (RrPost t w) := by
  by_cases h8 : t.size = 8
  · have h8' : (t.size : Int) = 8 := by omega
    obtain ⟨bs, hL⟩ : ∃ bs, bs = t.data.toList := ⟨_, rfl⟩
    have hLn : bs.length = t.size := by rw [hL, Lib.size_eq]
    have hget : ∀ k, (h : k < t.size) → t[k] = bs.getD k 0 := by
      intro k h
      subst hL
      simp [List.getD, List.getElem?_eq_getElem (show k < t.data.toList.length from h)]
      rfl
    have HL := Lib.hid hL
    clear hL
    go_enter Tryd.func55, Tryd.ntmps55
    go_wp2
    go_loopw [5] (fun i wr => ∃ k a b : Nat, k ≤ 8 ∧ i = .int .i64 k ∧ Hid (a < 16 ^ k ∧ b < 16 ^ k ∧ rr 0 0 0 bs = rr k a b (bs.drop k)) ∧ At wr w.heap.size (0, 0) ∧ At wr (w.heap.size + 1) ((a : Int), (b : Int)) ∧ Below w.heap.size w wr) (fun i _ => 8 - (intOf i).toNat)
    case atStart =>
      refine ⟨0, 0, 0, by omega, rfl, Lib.hid ⟨by decide, by decide, rfl⟩, ?_, ?_, ?_⟩
      · exact (At.new w 0 0 _).alloc _
      · have h := At.new (w.alloc (.cells #[.int .i64 0, .int .i64 0] 24)) 0 0 110
        simpa using h
      · exact ((Below.refl _ _).alloc (Nat.le_refl _) _).alloc (by simp) _
    case round =>
      obtain ⟨k, a, b, hk, rfl, hh, hr, hz, hB⟩ := hrel
      by_cases hlt : k < 8
      · obtain ⟨ha, hb, hdec⟩ := hh.out
        clear hh
        have hlt' : (k : Int) < (8 : Int) := by omega
        have hdrop : bs.drop k = bs[k]'(by omega) :: bs.drop (k + 1) := List.drop_eq_getElem_cons (by omega)
        have hgetk : bs.getD k 0 = bs[k]'(by omega) := by simp [List.getD, List.getElem?_eq_getElem (show k < bs.length by omega)]
        have hg := hget k (by omega)
        rw [hgetk] at hg
        rw [hdrop] at hdec
        generalize bs[k]'(by omega) = c at hg hdec
        have hp := pow16 k (by omega)
        have ha28 : a < 268435456 := by omega
        have hb28 : b < 268435456 := by omega
        have hc256 : c.toNat < 256 := c.toNat_lt
        have HR := Lib.hid hr
        have HZ := Lib.hid hz
        obtain ⟨⟨c0, c1⟩, ⟨z0, z1⟩, _⟩ := hz
        clear hr hp hgetk hdrop
        have q1 : IntKind.i64.wrap (c.toNat : Int) = (c.toNat : Int) := IntWalk.i64_in _ (by omega)
        have step : ∀ d : Nat, hexl c = some d → d < 16 → Hid ((if k < 4 then a * 16 + d else a) < 16 ^ (k + 1) ∧ (if k < 4 then b else b * 16 + d) < 16 ^ (k + 1) ∧ rr 0 0 0 bs = rr (k + 1) (if k < 4 then a * 16 + d else a) (if k < 4 then b else b * 16 + d) (bs.drop (k + 1))) := by
          intro d hd hd16
          have ps : (16 : Nat) ^ (k + 1) = 16 ^ k * 16 := Nat.pow_succ ..
          rw [ps]
          refine Lib.hid ⟨?_, ?_, ?_⟩
          · split <;> omega
          · split <;> omega
          · rw [hdec]
            show (hexl c).bind _ = _
            rw [hd]
            simp only [Option.bind_some]
            by_cases h4 : k < 4
            · simp only [if_pos h4]
            · simp only [if_neg h4]
        by_cases h4 : k < 4
        · have hk4 : (k : Int) / 4 = 0 := by omega
          simp only [if_pos h4] at step
          by_cases hdig : 48 ≤ c.toNat ∧ c.toNat ≤ 57
          · obtain ⟨hd0, hd1⟩ := hdig
            have HN := step (c.toNat - 48) (by unfold hexl; rw [if_pos ⟨hd0, hd1⟩]) (by omega)
            have HE : Hid (((a * 16 + (c.toNat - 48) : Nat) : Int) = (a : Int) * 16 + ((c.toNat : Int) - 48)) := Lib.hid (by omega)
            clear step hdec ha hb hget
            go_wp2
            go_roundw
            case rel =>
              refine ⟨k + 1, _, _, by omega, by go_num, HN, ?_, ?_, ?_⟩
              · exact HR.out.past (by omega) _
              · rw [HE.out]
                exact HZ.out.set0 _
              · exact hB.setCell (by simp) _
            case measure => simp [intOf]; omega
          · by_cases hlow : 97 ≤ c.toNat ∧ c.toNat ≤ 102
            · obtain ⟨hd0, hd1⟩ := hlow
              have HN := step (c.toNat - 87) (by unfold hexl; rw [if_neg hdig, if_pos ⟨hd0, hd1⟩]) (by omega)
              have HE : Hid (((a * 16 + (c.toNat - 87) : Nat) : Int) = (a : Int) * 16 + ((c.toNat : Int) - 87)) := Lib.hid (by omega)
              have hd' : ¬ (c.toNat : Int) ≤ 57 := by omega
              clear step hdec ha hb hget hdig
              go_wp2
              go_roundw
              case rel =>
                refine ⟨k + 1, _, _, by omega, by go_num, HN, ?_, ?_, ?_⟩
                · exact HR.out.past (by omega) _
                · rw [HE.out]
                  exact HZ.out.set0 _
                · exact hB.setCell (by simp) _
              case measure => simp [intOf]; omega
            · have hno : ∀ q, ¬ IsText t q := by
                intro q h
                obtain ⟨_, a', b', _, _, _, hr'⟩ := is_rr h
                rw [← HL.out, hdec] at hr'
                have : rr k a b (c :: bs.drop (k + 1)) = none := by
                  show (hexl c).bind _ = _
                  unfold hexl
                  rw [if_neg hdig, if_neg hlow]; rfl
                rw [this] at hr'
                cases hr'
              have HNO := Lib.hid hno
              have hn : ¬ (48 ≤ (c.toNat : Int) ∧ (c.toNat : Int) ≤ 57) := by omega
              have hn2 : ¬ (97 ≤ (c.toNat : Int) ∧ (c.toNat : Int) ≤ 102) := by omega
              have hd := HR.out.set (q := (0, 0))
              obtain ⟨⟨e0, e1⟩, ⟨x0, x1⟩, _⟩ := HR.out
              clear step hdec ha hb hget hno hdig hlow
              have HD := Lib.hid hd
              clear hd
              go_wp2
              all_goals
                obtain ⟨⟨d0, d1⟩, _, _⟩ := HD.out
                exact bodyPost_ret (v := .tuple #[.agg #[.int .i64 0, .int .i64 0], .bool false]) (by simp [results, Tryd.results55, go_sem, d0, d1]) rfl
                  (RrPost.no HNO.out ((hB.setCell (by simp) _).setCell (by simp) _))
        · have hk4 : (k : Int) / 4 = 1 := by omega
          simp only [if_neg h4] at step
          by_cases hdig : 48 ≤ c.toNat ∧ c.toNat ≤ 57
          · obtain ⟨hd0, hd1⟩ := hdig
            have HN := step (c.toNat - 48) (by unfold hexl; rw [if_pos ⟨hd0, hd1⟩]) (by omega)
            have HE : Hid (((b * 16 + (c.toNat - 48) : Nat) : Int) = (b : Int) * 16 + ((c.toNat : Int) - 48)) := Lib.hid (by omega)
            clear step hdec ha hb hget
            go_wp2
            go_roundw
            case rel =>
              refine ⟨k + 1, _, _, by omega, by go_num, HN, ?_, ?_, ?_⟩
              · exact HR.out.past (by omega) _
              · rw [HE.out]
                exact HZ.out.set1 _
              · exact hB.setCell (by simp) _
            case measure => simp [intOf]; omega
          · by_cases hlow : 97 ≤ c.toNat ∧ c.toNat ≤ 102
            · obtain ⟨hd0, hd1⟩ := hlow
              have HN := step (c.toNat - 87) (by unfold hexl; rw [if_neg hdig, if_pos ⟨hd0, hd1⟩]) (by omega)
              have HE : Hid (((b * 16 + (c.toNat - 87) : Nat) : Int) = (b : Int) * 16 + ((c.toNat : Int) - 87)) := Lib.hid (by omega)
              have hd' : ¬ (c.toNat : Int) ≤ 57 := by omega
              clear step hdec ha hb hget hdig
              go_wp2
              go_roundw
              case rel =>
                refine ⟨k + 1, _, _, by omega, by go_num, HN, ?_, ?_, ?_⟩
                · exact HR.out.past (by omega) _
                · rw [HE.out]
                  exact HZ.out.set1 _
                · exact hB.setCell (by simp) _
              case measure => simp [intOf]; omega
            · have hno : ∀ q, ¬ IsText t q := by
                intro q h
                obtain ⟨_, a', b', _, _, _, hr'⟩ := is_rr h
                rw [← HL.out, hdec] at hr'
                have : rr k a b (c :: bs.drop (k + 1)) = none := by
                  show (hexl c).bind _ = _
                  unfold hexl
                  rw [if_neg hdig, if_neg hlow]; rfl
                rw [this] at hr'
                cases hr'
              have HNO := Lib.hid hno
              have hn : ¬ (48 ≤ (c.toNat : Int) ∧ (c.toNat : Int) ≤ 57) := by omega
              have hn2 : ¬ (97 ≤ (c.toNat : Int) ∧ (c.toNat : Int) ≤ 102) := by omega
              have hd := HR.out.set (q := (0, 0))
              obtain ⟨⟨e0, e1⟩, ⟨x0, x1⟩, _⟩ := HR.out
              clear step hdec ha hb hget hno hdig hlow
              have HD := Lib.hid hd
              clear hd
              go_wp2
              all_goals
                obtain ⟨⟨d0, d1⟩, _, _⟩ := HD.out
                exact bodyPost_ret (v := .tuple #[.agg #[.int .i64 0, .int .i64 0], .bool false]) (by simp [results, Tryd.results55, go_sem, d0, d1]) rfl
                  (RrPost.no HNO.out ((hB.setCell (by simp) _).setCell (by simp) _))
      · have hk8 : k = 8 := by omega
        subst hk8
        obtain ⟨ha, hb, hdec⟩ := hh.out
        rw [List.drop_eq_nil_of_le (by omega)] at hdec
        rw [show rr 8 a b [] = some (a, b) from rfl] at hdec
        clear hh hget
        have ha28 : a < 4294967296 := ha
        have hb28 : b < 4294967296 := hb
        obtain ⟨⟨c0, c1⟩, ⟨z0, z1⟩, _⟩ := hz
        have HR := Lib.hid hr
        obtain ⟨⟨e0, e1⟩, ⟨x0, x1⟩, _⟩ := hr
        clear ha hb ha28 hb28
        by_cases h1 : a < 65521
        · by_cases h2 : b < 65521
          · have his := rr_is h8 (by rw [← HL.out]; exact hdec) h1 h2
            have HI := Lib.hid his
            have HD := Lib.hid (HR.out.set (q := ((a : Int), (b : Int))))
            have i1 : (a : Int) < 65521 := by omega
            have i2 : (b : Int) < 65521 := by omega
            have j1 : ¬ (65521 : Int) ≤ (a : Int) := by omega
            have j2 : ¬ (65521 : Int) ≤ (b : Int) := by omega
            clear hdec his h1 h2 hLn hk hlt i1 i2
            go_wp2
            obtain ⟨⟨d0, d1⟩, _, _⟩ := HD.out
            exact bodyPost_ret (v := .tuple #[.agg #[.int .i64 a, .int .i64 b], .bool true]) (by simp [results, Tryd.results55, go_sem, d0, d1]) rfl
              (RrPost.yes HI.out ((hB.setCell (by simp) _).setCell (by simp) _))
          · have hno : ∀ q, ¬ IsText t q := by
              intro q h
              obtain ⟨_, a', b', _, _, hb', hr'⟩ := is_rr h
              rw [← HL.out, hdec] at hr'
              have := Prod.mk.inj (Option.some.inj hr')
              omega
            have HNO := Lib.hid hno
            have HD := Lib.hid (HR.out.set (q := (0, 0)))
            have i1 : (a : Int) < 65521 := by omega
            have i2 : (65521 : Int) ≤ (b : Int) := by omega
            clear hdec hno h1 h2 hLn hk hlt
            go_wp2
            obtain ⟨⟨d0, d1⟩, _, _⟩ := HD.out
            exact bodyPost_ret (v := .tuple #[.agg #[.int .i64 0, .int .i64 0], .bool false]) (by simp [results, Tryd.results55, go_sem, d0, d1]) rfl
              (RrPost.no HNO.out ((hB.setCell (by simp) _).setCell (by simp) _))
        · have hno : ∀ q, ¬ IsText t q := by
            intro q h
            obtain ⟨_, a', b', _, ha', _, hr'⟩ := is_rr h
            rw [← HL.out, hdec] at hr'
            have := Prod.mk.inj (Option.some.inj hr')
            omega
          have HNO := Lib.hid hno
          have HD := Lib.hid (HR.out.set (q := (0, 0)))
          have i1 : (65521 : Int) ≤ (a : Int) := by omega
          clear hdec hno h1 hLn hk hlt
          go_wp2
          obtain ⟨⟨d0, d1⟩, _, _⟩ := HD.out
          exact bodyPost_ret (v := .tuple #[.agg #[.int .i64 0, .int .i64 0], .bool false]) (by simp [results, Tryd.results55, go_sem, d0, d1]) rfl
            (RrPost.no HNO.out ((hB.setCell (by simp) _).setCell (by simp) _))
  · have h8' : ((t.size : Int) == 8) = false := by rw [beq_eq_false_iff_ne]; omega
    have hno : ∀ q, ¬ IsText t q := fun q h => h8 (is_rr h).1
    go_enter Tryd.func55, Tryd.ntmps55
    go_wp2
    exact bodyPost_ret (v := .tuple #[.agg #[.int .i64 0, .int .i64 0], .bool false]) (by simp [results, Tryd.results55, go_sem]) rfl
      (RrPost.no hno ((Below.refl _ _).alloc (Nat.le_refl _) _))

end Go.Proofs.YtamennoehnigaaaDoor
