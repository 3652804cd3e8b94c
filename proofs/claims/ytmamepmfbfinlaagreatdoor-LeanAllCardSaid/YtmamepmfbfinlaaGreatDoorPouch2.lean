/-
  Values as trees; how they lie in memory; the contracts of pouch's values and May.
-/
import Derived.Test.YtmamepmfbfinlaaGreatDoorPouch1
namespace Go.Proofs.YtmamepmfbfinlaaGreatDoor
open Go.RowKit

/-- A list of values: a first one (its kind, number, text, list) and the rest. -/
inductive F where
  | nil
  | cons (k n : Int) (s : ByteArray) (kids rest : F)

def F.len : F → Nat
  | .nil => 0
  | .cons _ _ _ _ r => r.len + 1

/-- How many values. -/
def F.cnt : F → Nat
  | .nil => 0
  | .cons _ _ _ l r => 1 + l.cnt + r.cnt

def F.dep : F → Nat
  | .nil => 0
  | .cons _ _ _ l r => max (l.dep + 1) r.dep

def F.ok : F → Bool
  | .nil => true
  | .cons k n s l r => pureB k n s l.len && l.ok && r.ok

def F.All (Q : Int → Int → ByteArray → F → Prop) : F → Prop
  | .nil => True
  | .cons k n s l r => Q k n s l ∧ r.All Q

theorem F.all_of {Q : Int → Int → ByteArray → F → Prop} (h : ∀ k n s l, l.All Q → Q k n s l) : ∀ f : F, f.All Q
  | .nil => trivial
  | .cons k n s l r => ⟨h k n s l (F.all_of h l), F.all_of h r⟩

theorem F.len_le_cnt : ∀ f : F, f.len ≤ f.cnt
  | .nil => Nat.le_refl _
  | .cons _ _ _ l r => by have := F.len_le_cnt r; simp only [F.len, F.cnt]; omega

/-- A value as the walk has it. -/
def vagg (k n : Int) (s : ByteArray) (ad : Option Addr) (len cap : Nat) : Value := .agg #[.int .i64 k, .int .i64 n, .string s, .slice ad len cap]

/-- A list of values lies in a block, from a cell on. -/
def RepF (w : World) (b : Nat) : Nat → F → Prop
  | _, .nil => True
  | off, .cons k n s l r =>
    w.cell? ⟨b, off, none⟩ = some (.int .i64 k) ∧ w.cell? ⟨b, off + 1, none⟩ = some (.int .i64 n) ∧ w.cell? ⟨b, off + 2, none⟩ = some (.string s) ∧
    (∃ ad cap, w.cell? ⟨b, off + 3, none⟩ = some (.slice ad l.len cap) ∧ (l = .nil ∨ ∃ b' o', ad = some ⟨b', o', none⟩ ∧ RepF w b' o' l)) ∧ RepF w b (off + 4) r

/-- .. behind a slice's address. -/
def RepS (w : World) (ad : Option Addr) (l : F) : Prop := l = .nil ∨ ∃ b o, ad = some ⟨b, o, none⟩ ∧ RepF w b o l

theorem cell_kept {w w' : World} {B : Nat} {a : Addr} {v : Value} (hb : Below B w w') (hB : w.heap.size ≤ B) (h : w.cell? a = some v) : w'.cell? a = some v := by
  rw [hb.cell (Nat.lt_of_lt_of_le (World.block_lt_of_cell? w _ h) hB)]; exact h

theorem RepF.kept {w w' : World} {B : Nat} (hb : Below B w w') (hB : w.heap.size ≤ B) : ∀ (f : F) (b off : Nat), RepF w b off f → RepF w' b off f
  | .nil, _, _, _ => trivial
  | .cons k n s l r, b, off, h => by
    obtain ⟨h0, h1, h2, ⟨ad, cap, h3, h4⟩, h5⟩ := h
    refine ⟨cell_kept hb hB h0, cell_kept hb hB h1, cell_kept hb hB h2, ⟨ad, cap, cell_kept hb hB h3, ?_⟩, RepF.kept hb hB r _ _ h5⟩
    rcases h4 with h4 | ⟨b', o', e, h4⟩
    · exact .inl h4
    · exact .inr ⟨b', o', e, RepF.kept hb hB l _ _ h4⟩

theorem RepS.kept {w w' : World} {B : Nat} {ad : Option Addr} {l : F} (h : RepS w ad l) (hb : Below B w w') (hB : w.heap.size ≤ B) : RepS w' ad l := by
  rcases h with h | ⟨b, o, e, h⟩
  · exact .inl h
  · exact .inr ⟨b, o, e, RepF.kept hb hB l _ _ h⟩

theorem RepS.below {w w' : World} {ad : Option Addr} {l : F} (h : RepS w ad l) (hb : Below w.heap.size w w') : RepS w' ad l := h.kept hb (Nat.le_refl _)

/-- May a value be, at most so deep, of at most so many values? -/
def vmayB (k n : Int) (s : ByteArray) (l : F) (d m : Int) : Bool := pureB k n s l.len && l.ok && decide ((l.dep : Int) + 1 ≤ d) && decide ((l.cnt : Int) + 1 ≤ m)

def valI (k n : Int) (s : ByteArray) (l : F) (d m : Int) : Int := if vmayB k n s l d m then (l.cnt : Int) + 1 else 0

/-- What is known of a value's values. -/
def ValuesQ (k n : Int) (s : ByteArray) (l : F) : Prop := ∀ (d m : Int) (ad : Option Addr) (cap : Nat) (w : World), 0 ≤ d → d ≤ 1000000 → 0 ≤ m → m ≤ 1000000 → RepS w ad l →
  Calls Tryz.prog 71 #[.agg #[.int .i64 k, .int .i64 n, .string s, .slice ad l.len cap], .int .i64 d, .int .i64 m] w fun e w' => e = .returned (.int .i64 (valI k n s l d m)) ∧ Below w.heap.size w w'

/-- What the loop over a value's list keeps. -/
def ValRel (w : World) (T d m : Int) (ad : Option Addr) (len : Nat) (may : Prop) (nv iv : Value) (wr : World) : Prop :=
  ∃ (i : Nat) (n : Int) (g : F), iv = .int .i64 i ∧ nv = .int .i64 n ∧ 1 ≤ n ∧ (i : Int) ≤ n ∧ n ≤ m ∧ i + g.len = len ∧ g.All ValuesQ ∧
    Hid ((may ↔ (g.ok = true ∧ (g.dep : Int) + 1 ≤ d ∧ n + g.cnt ≤ m)) ∧ n + g.cnt = T) ∧ (g = .nil ∨ ∃ b o, ad = some ⟨b, o, none⟩ ∧ RepF wr b (o + i * 4) g) ∧ Below w.heap.size w wr

set_option maxRecDepth 100000 in
set_option maxHeartbeats 4000000 in
theorem values_q (k n : Int) (s : ByteArray) (l : F) (hl : l.All ValuesQ) : ValuesQ k n s l := by
  intro d m ad cap w hd hd2 hm hm2 hr
  by_cases hd0 : d = 0
  · subst hd0
    have e : valI k n s l 0 m = 0 := by
      unfold valI vmayB
      rw [if_neg]
      simp only [Bool.and_eq_true, decide_eq_true_eq]
      omega
    rw [e]
    go_enter Tryz.func71, Tryz.ntmps71
    go_wp2_with fail
    go_ret
    exact ⟨rfl, (Below.refl _ _).alloc (Nat.le_refl _) _⟩
  have bd : (d == 0) = false := by rw [beq_eq_false_iff_ne]; exact hd0
  by_cases hm0 : m = 0
  · subst hm0
    have e : valI k n s l d 0 = 0 := by
      unfold valI vmayB
      rw [if_neg]
      simp only [Bool.and_eq_true, decide_eq_true_eq]
      omega
    rw [e]
    go_enter Tryz.func71, Tryz.ntmps71
    go_wp2_with fail
    go_ret
    exact ⟨rfl, (Below.refl _ _).alloc (Nat.le_refl _) _⟩
  have bm : (m == 0) = false := by rw [beq_eq_false_iff_ne]; exact hm0
  have P := Lib.hid (pure_p k n s ad l.len cap)
  cases hp : pureB k n s l.len with
  | false =>
    have e : valI k n s l d m = 0 := by
      unfold valI vmayB
      rw [hp]
      rfl
    rw [e]
    rw [hp] at P
    clear e
    go_enter Tryz.func71, Tryz.ntmps71
    go_wp2_with fail
    refine (P.out _).mono ?_
    rintro _ w1 ⟨rfl, hb1⟩
    go_wp2_with fail
    go_ret
    exact ⟨rfl, ((Below.refl _ _).alloc (Nat.le_refl _) _).trans (hb1.mono (by simp))⟩
  | true =>
    rw [hp] at P
    have HM : Hid (vmayB k n s l d m = true ↔ (l.ok = true ∧ (l.dep : Int) + 1 ≤ d ∧ 1 + (l.cnt : Int) ≤ m)) := Lib.hid (by
      unfold vmayB
      rw [hp]
      simp only [Bool.true_and, Bool.and_eq_true, decide_eq_true_eq]
      constructor
      · rintro ⟨⟨a, b⟩, c⟩; exact ⟨a, b, by omega⟩
      · rintro ⟨a, b, c⟩; exact ⟨⟨a, b⟩, by omega⟩)
    have HV : Hid ((vmayB k n s l d m = true → valI k n s l d m = 1 + (l.cnt : Int)) ∧ (¬ vmayB k n s l d m = true → valI k n s l d m = 0)) := Lib.hid (by
      unfold valI
      exact ⟨fun h => by rw [if_pos h]; omega, fun h => by rw [if_neg h]⟩)
    generalize valI k n s l d m = R at *
    have HR := Lib.hid hr
    have HL := Lib.hid hl
    clear hr hl hp
    go_enter Tryz.func71, Tryz.ntmps71
    go_wp2_with fail
    refine (P.out _).mono ?_
    rintro _ w1 ⟨rfl, hb1⟩
    have hbw : Below w.heap.size w w1 := ((Below.refl _ _).alloc (Nat.le_refl _) _).trans (hb1.mono (by simp))
    have c3 : w1.cell? ⟨w.heap.size, 3, none⟩ = some (.slice ad l.len cap) := by rw [hb1.cell (by simp)]; go_simp
    have HBW := Lib.hid hbw
    clear hb1 hbw
    go_wp2_with fail
    go_loopw [7, 25] (fun nv iv wr => ValRel w (1 + (l.cnt : Int)) d m ad l.len (vmayB k n s l d m = true) nv iv wr) (fun _ i _ => l.len - (intOf i).toNat)
    case atStart =>
      refine ⟨0, 1, l, rfl, rfl, by omega, by omega, by omega, by omega, HL.out, Lib.hid ⟨HM.out, rfl⟩, ?_, HBW.out⟩
      rcases HR.out with h | ⟨b, o, e, h⟩
      · exact .inl h
      · refine .inr ⟨b, o, e, ?_⟩
        simpa using RepF.kept HBW.out (Nat.le_refl _) l _ _ h
    case round =>
      obtain ⟨i, nn, g, rfl, rfl, h1, hin, hnm, hil, hQ, hH, hG, hB⟩ := hrel
      cases g with
      | nil =>
        have hlt : ¬ (i : Int) < (l.len : Int) := by simp only [F.len] at hil; omega
        obtain ⟨hM, hT⟩ := hH.out
        have hR : R = nn := by
          rw [HV.out.1 (hM.2 ⟨rfl, by simp only [F.dep]; omega, by simp only [F.cnt]; omega⟩)]
          simp only [F.cnt] at hT
          omega
        subst hR
        clear hM hT hH hG hQ
        go_wp2_with fail
        go_ret
        exact ⟨rfl, hB⟩
      | cons k' n' s' l' r' =>
        have hlt : (i : Int) < (l.len : Int) := by simp only [F.len] at hil; omega
        have hlt' : i < l.len := by omega
        obtain ⟨b, o, rfl, g0, g1, g2, ⟨ad', cap', g3, g4⟩, g5⟩ := hG.resolve_left (by simp)
        obtain ⟨hq, hQr⟩ := hQ
        have HQ := Lib.hid hQr
        have HG5 := Lib.hid g5
        have HG4 := Lib.hid (show RepS wr ad' l' from g4)
        have HB := Lib.hid hB
        have HQQ := Lib.hid hq
        have hsz : w.heap.size ≤ wr.heap.size := hB.size
        have HLEN := Lib.hid (show i + 1 + r'.len = l.len by simp only [F.len] at hil; omega)
        have hmn : 0 ≤ m - nn := by omega
        obtain ⟨ra, hra⟩ : ∃ ra, valI k' n' s' l' (d - 1) (m - nn) = ra := ⟨_, rfl⟩
        have hdd : 0 ≤ d - 1 := by omega
        have hda : Hid (¬ ra = 0 → ra = 1 + (l'.cnt : Int) ∧ ((vmayB k n s l d m = true ↔ (r'.ok = true ∧ (r'.dep : Int) + 1 ≤ d ∧ nn + ra + r'.cnt ≤ m)) ∧ nn + ra + r'.cnt = 1 + (l.cnt : Int)) ∧ 1 ≤ ra ∧ nn + ra ≤ m) := Lib.hid (by
          intro h0
          obtain ⟨hM, hT⟩ := hH.out
          have hmb : vmayB k' n' s' l' (d - 1) (m - nn) = true := by
            by_cases hh : vmayB k' n' s' l' (d - 1) (m - nn) = true
            · exact hh
            · exfalso; apply h0; rw [← hra]; unfold valI; rw [if_neg hh]
          have hr1 : ra = 1 + (l'.cnt : Int) := by rw [← hra]; unfold valI; rw [if_pos hmb]; omega
          unfold vmayB at hmb
          simp only [Bool.and_eq_true, decide_eq_true_eq] at hmb
          obtain ⟨⟨⟨q1, q2⟩, q3⟩, q4⟩ := hmb
          refine ⟨hr1, ⟨?_, ?_⟩, by omega, by omega⟩
          · rw [hM]
            simp only [F.ok, F.dep, F.cnt, Bool.and_eq_true]
            constructor
            · rintro ⟨⟨⟨_, _⟩, c⟩, e1, e2⟩; exact ⟨c, by omega, by omega⟩
            · rintro ⟨c, e1, e2⟩; exact ⟨⟨⟨q1, q2⟩, c⟩, by omega, by omega⟩
          · simp only [F.cnt] at hT
            omega)
        have hdb : Hid (ra = 0 → R = 0) := Lib.hid (by
          intro h0
          obtain ⟨hM, hT⟩ := hH.out
          apply HV.out.2
          intro hh
          obtain ⟨q1, q2, q3⟩ := hM.1 hh
          simp only [F.ok, F.dep, F.cnt, Bool.and_eq_true] at q1 q2 q3
          have : vmayB k' n' s' l' (d - 1) (m - nn) = true := by
            unfold vmayB
            simp only [Bool.and_eq_true, decide_eq_true_eq]
            exact ⟨⟨⟨q1.1.1, q1.1.2⟩, by omega⟩, by omega⟩
          rw [← hra] at h0
          unfold valI at h0
          rw [if_pos this] at h0
          omega)
        clear hH g5 g4 hQr hq hB hil
        have q0 : wr.cell? ⟨b, o + i * 4 + 0, none⟩ = some (.int .i64 k') := g0
        have hb3 : Below w.heap.size w (wr.alloc (.cells #[.int .i64 k', .int .i64 n', .string s', .slice ad' l'.len cap'] 61)) := HB.out.alloc hsz _
        have HB3 := Lib.hid hb3
        clear hb3
        by_cases h0 : ra = 0
        · obtain rfl := hdb.out h0
          subst h0
          go_wp2_with fail
          refine (HQQ.out (d - 1) (m - nn) ad' cap' _ (by omega) (by omega) (by omega) (by omega) ?_).mono ?_
          · exact HG4.out.below ((Below.refl _ _).alloc (Nat.le_refl _) _)
          rw [hra]
          rintro _ w2 ⟨rfl, hb2⟩
          go_wp2_with fail
          go_ret
          exact ⟨rfl, HB3.out.trans (hb2.mono HB3.out.size)⟩
        · have b0 : (ra == 0) = false := by rw [beq_eq_false_iff_ne]; exact h0
          have HDA := Lib.hid (hda.out h0)
          obtain ⟨hra1, hra2⟩ := (hda.out h0).2.2
          clear hda
          go_wp2_with fail
          refine (HQQ.out (d - 1) (m - nn) ad' cap' _ (by omega) (by omega) (by omega) (by omega) ?_).mono ?_
          · exact HG4.out.below ((Below.refl _ _).alloc (Nat.le_refl _) _)
          rw [hra]
          rintro _ w2 ⟨rfl, hb2⟩
          have HB2 := Lib.hid hb2
          clear hb2
          go_wp2_with fail
          go_roundw
          case rel =>
            obtain ⟨_, hM, _, _⟩ := HDA.out
            refine ⟨i + 1, nn + ra, r', by go_num, rfl, by omega, by omega, by omega, HLEN.out, HQ.out, Lib.hid hM, ?_, HB3.out.trans (HB2.out.mono HB3.out.size)⟩
            refine .inr ⟨b, o, rfl, ?_⟩
            have := (RepF.kept ((Below.refl _ _).alloc (Nat.le_refl _) _) (Nat.le_refl _) r' _ _ HG5.out).kept HB2.out (Nat.le_refl _)
            rw [show o + (i + 1) * 4 = o + i * 4 + 4 by omega]
            exact this
          case measure => simp [intOf]; omega

theorem values_all (f : F) : f.All ValuesQ := F.all_of values_q f

theorem values_p (k n : Int) (s : ByteArray) (l : F) : ValuesQ k n s l := values_q k n s l (values_all l)

/-- A value that may be. -/
def vmay (k n : Int) (s : ByteArray) (l : F) : Bool := vmayB k n s l 6 6000

theorem vmay_p (k n : Int) (s : ByteArray) (l : F) (ad : Option Addr) (cap : Nat) (w : World) (hr : RepS w ad l) :
    Calls Tryz.prog 55 #[.agg #[.int .i64 k, .int .i64 n, .string s, .slice ad l.len cap]] w fun e w' => e = .returned (.bool (vmay k n s l)) ∧ Below w.heap.size w w' := by
  have hb0 : Below w.heap.size w (w.alloc (.cells #[.int .i64 k, .int .i64 n, .string s, .slice ad l.len cap] 61)) := (Below.refl _ _).alloc (Nat.le_refl _) _
  have H := Lib.hid (values_p k n s l 6 6000 ad cap _ (by omega) (by omega) (by omega) (by omega) (hr.below hb0))
  have HV : Hid ((0 < valI k n s l 6 6000) ↔ vmay k n s l = true) := Lib.hid (by
    unfold valI vmay
    by_cases h : vmayB k n s l 6 6000 = true
    · rw [if_pos h]; simp only [h, iff_true]; omega
    · rw [if_neg h]; simp [h])
  generalize valI k n s l 6 6000 = v at *
  have HB0 := Lib.hid hb0
  clear hb0 hr
  cases hm : vmay k n s l with
  | true =>
    have h0 : 0 < v := HV.out.2 hm
    clear hm
    go_enter Tryz.func55, Tryz.ntmps55
    go_wp2_with fail
    refine H.out.mono ?_
    rintro _ w1 ⟨rfl, hb1⟩
    go_wp2_with fail
    go_ret
    exact ⟨rfl, HB0.out.trans (hb1.mono HB0.out.size)⟩
  | false =>
    have h0 : ¬ 0 < v := fun h => by rw [HV.out.1 h] at hm; cases hm
    clear hm
    go_enter Tryz.func55, Tryz.ntmps55
    go_wp2_with fail
    refine H.out.mono ?_
    rintro _ w1 ⟨rfl, hb1⟩
    go_wp2_with fail
    go_ret
    exact ⟨congrArg (fun b => Ending.returned (.bool b)) (decide_eq_false (by omega)), HB0.out.trans (hb1.mono HB0.out.size)⟩

end Go.Proofs.YtmamepmfbfinlaaGreatDoor
