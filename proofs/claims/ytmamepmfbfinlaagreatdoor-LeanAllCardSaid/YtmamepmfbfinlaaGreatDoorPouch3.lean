/-
  The contracts of pouch's frame, put and Put.
-/
import Derived.Test.YtmamepmfbfinlaaGreatDoorPouch2
import Derived.Test.YtmamepmfbfinlaaGreatDoorLaw1
import Derived.Lib.AppendStr
import Derived.Lib.AppendIntMem
import Derived.Lib.ItoaLen
namespace Go.Proofs.YtmamepmfbfinlaaGreatDoor
open Go.RowKit

/-- A text in base 10. -/
def decS (n : Int) : ByteArray := ⟨(Lib.itoa n).toArray⟩

theorem decS_size (n : Int) (h0 : -9223372036854775808 ≤ n) (h1 : n ≤ 9223372036854775807) : (decS n).size ≤ 21 := by
  have h := Lib.itoa_length_le n h0 h1
  show (Lib.itoa n).toArray.size ≤ 21
  rw [List.size_toArray]
  exact h

/-- A text with its length ahead of it and an end behind it; too long: none. -/
def frameS (t e : ByteArray) : ByteArray := if t.size ≤ 9999999 then ((decS t.size ++ ⟨#[58]⟩) ++ t) ++ e else ⟨#[]⟩

theorem itoa_p (n : Int) (h0 : -9223372036854775808 ≤ n) (h1 : n ≤ 9223372036854775807) (w : World) (h : PowAt w) :
    Calls Tryz.prog 84 #[.int .i64 n] w fun e w' => e = .returned (.string (decS n)) ∧ Below w.heap.size w w' :=
  (Tryz.strconv_Itoa n h0 h1 w h).mono fun _ _ ⟨he, k, os, hw⟩ => ⟨he, by rw [hw]; exact Lib.below_grow _ w (Nat.le_refl _) k os⟩

theorem fmtint_p (n : Int) (h0 : -9223372036854775808 ≤ n) (h1 : n ≤ 9223372036854775807) (w : World) (h : PowAt w) :
    Calls Tryz.prog 73 #[.int .i64 n, .int .i64 10] w fun e w' => e = .returned (.string (decS n)) ∧ Below w.heap.size w w' :=
  (Tryz.strconv_FormatInt_10 n h0 h1 w h).mono fun _ _ ⟨he, k, os, hw⟩ => ⟨he, by rw [hw]; exact Lib.below_grow _ w (Nat.le_refl _) k os⟩

set_option maxRecDepth 100000 in
set_option maxHeartbeats 4000000 in
theorem frame_p (t e : ByteArray) (he : e.size = 1) (w : World) (h : PowAt w) :
    Calls Tryz.prog 72 #[.string t, .string e] w fun e' w' => e' = .returned (.string (frameS t e)) ∧ Below w.heap.size w w' := by
  unfold frameS
  by_cases hs : t.size ≤ 9999999
  · rw [if_pos hs]
    have I := Lib.hid (itoa_p (t.size : Int) (by omega) (by omega) w h)
    have hd : (decS (t.size : Int)).size ≤ 21 := decS_size _ (by omega) (by omega)
    generalize decS (t.size : Int) = D at *
    have hs' : ¬ 9999999 < (t.size : Int) := by omega
    have z1 : ¬ 9223372036854775807 < D.size + 1 := by omega
    clear h
    go_enter Tryz.func72, Tryz.ntmps72
    go_wp2_with fail
    refine I.out.mono ?_
    rintro _ w1 ⟨rfl, hb1⟩
    go_wp2_with fail
    go_ret
    exact ⟨rfl, hb1⟩
  · rw [if_neg hs]
    have hs' : 9999999 < (t.size : Int) := by omega
    clear h
    go_enter Tryz.func72, Tryz.ntmps72
    go_wp2_with fail
    go_ret
    exact ⟨rfl, Below.refl _ _⟩

/-- What a list's elements come to, one behind the other. -/
def putF : F → ByteArray → Option ByteArray
  | .nil, acc => some acc
  | .cons k n s l r, acc =>
    let v := if k = 1 then frameS (decS n) ⟨#[35]⟩ else if k = 2 then frameS s ⟨#[44]⟩ else (match putF l ⟨#[]⟩ with | none => ⟨#[]⟩ | some t => frameS t ⟨#[93]⟩)
    if v.size = 0 ∨ 9999999 < acc.size + v.size then none else putF r (acc ++ v)

/-- A value's text. -/
def putV (k n : Int) (s : ByteArray) (l : F) : ByteArray :=
  if k = 1 then frameS (decS n) ⟨#[35]⟩ else if k = 2 then frameS s ⟨#[44]⟩ else (match putF l ⟨#[]⟩ with | none => ⟨#[]⟩ | some t => frameS t ⟨#[93]⟩)

theorem putF_cons (k n : Int) (s : ByteArray) (l r : F) (acc : ByteArray) : putF (.cons k n s l r) acc = if (putV k n s l).size = 0 ∨ 9999999 < acc.size + (putV k n s l).size then none else putF r (acc ++ putV k n s l) := rfl

/-- Numbers are int64s. -/
def F.wf : F → Prop
  | .nil => True
  | .cons _ n _ l r => (-9223372036854775808 ≤ n ∧ n ≤ 9223372036854775807) ∧ l.wf ∧ r.wf

theorem owns_shape {w : World} {base : Nat} {e : TypeId} {v : Value} {n : Nat} {xs : List Value} (h : w.ownsRow base e 1 v n xs) : ∃ ad cap, v = .slice ad n cap := by
  rcases h.2 with ⟨rfl, rfl⟩ | ⟨g, cap, cur, rfl, _⟩
  · exact ⟨_, _, rfl⟩
  · exact ⟨_, _, rfl⟩

theorem empty_of_size {t : ByteArray} (h : t.size = 0) : t = ⟨#[]⟩ := by
  apply ByteArray.ext
  exact Array.eq_empty_of_size_eq_zero h

theorem conv_owned {w : World} {base : Nat} {v : Value} {T : ByteArray} (h : w.ownsRow base 5 1 v T.size (Lib.strCells T)) :
    (convert 56 9 v).run Tryz.prog w = .ok (.string T) w := by
  have hc := fun {g : Nat} (hv : v.ownBlock = some g) => h.cells (g := g) hv
  rcases h.2 with ⟨rfl, h0⟩ | ⟨g, cap, cur, rfl, _⟩
  · rw [empty_of_size h0]
    exact run_convert_bytes_nil w 56 5 Tryz.underlying56 Tryz.underlying5 0 0 9 Tryz.underlying9
  · have h1 := run_convert_bytes_back (P := Tryz.prog) w 56 9 5 ⟨g, 0, none⟩ cap T.data.toList Tryz.underlying56 Tryz.underlying5 Tryz.underlying9 (fun j hj => hc rfl j _ (by
      unfold Lib.strCells
      rw [List.getElem?_map, List.getElem?_eq_getElem hj]
      rfl))
    rw [show T.data.toList.length = T.size from rfl] at h1
    exact h1

theorem owns_below {w w' : World} {B : Nat} {e : TypeId} {s n : Nat} {v : Value} {xs : List Value} (h : w.ownsRow B e s v n xs) (hb : Below w.heap.size w w') : w'.ownsRow B e s v n xs := by
  obtain ⟨hl, h0 | ⟨g, cap, cur, hv, hB, hh, r⟩⟩ := h
  · exact ⟨hl, .inl h0⟩
  · have hg : g < w.heap.size := by
      rcases Nat.lt_or_ge g w.heap.size with h1 | h1
      · exact h1
      · rw [Array.getElem?_eq_none h1] at hh
        cases hh
    exact ⟨hl, .inr ⟨g, cap, cur, hv, hB, by rw [hb.block g hg]; exact hh, r⟩⟩

theorem owns_base {w : World} {B : Nat} {e : TypeId} {s n : Nat} {v : Value} {xs : List Value} (h : w.ownsRow B e s v n xs) : ∀ j, v.ownBlock = some j → B ≤ j := by
  intro j hj
  rcases h.2 with ⟨rfl, _⟩ | ⟨g, cap, cur, rfl, hB, _⟩
  · cases hj
  · cases hj; exact hB

theorem isEmpty_ne {V : ByteArray} (h : ¬ V.size = 0) : V.toList.isEmpty = false := by
  rw [ByteArray.toList_eq, List.isEmpty_eq_false_iff]
  intro e
  apply h
  show V.data.size = 0
  rw [← Array.length_toList, e]
  rfl

theorem frameS_size (t e : ByteArray) : (frameS t e).size ≤ 10000021 + e.size := by
  unfold frameS
  by_cases h : t.size ≤ 9999999
  · rw [if_pos h]
    have hd := decS_size (t.size : Int) (by omega) (by omega)
    simp only [ByteArray.size_append]
    have : (⟨#[58]⟩ : ByteArray).size = 1 := rfl
    omega
  · rw [if_neg h]
    exact Nat.zero_le _

theorem putV_size (k n : Int) (s : ByteArray) (l : F) : (putV k n s l).size ≤ 10000022 := by
  unfold putV
  split
  · exact frameS_size _ _
  · split
    · exact frameS_size _ _
    · split
      · exact Nat.zero_le _
      · exact frameS_size _ _

theorem strCells_append (a b : ByteArray) : Lib.strCells (a ++ b) = Lib.strCells a ++ Lib.strCells b := by
  unfold Lib.strCells
  rw [ByteArray.data_append, Array.toList_append, List.map_append]

/-- What is known of the text of a value. -/
def PutQ (k n : Int) (s : ByteArray) (l : F) : Prop := ∀ (ad : Option Addr) (cap : Nat) (w : World), PowAt w → (-9223372036854775808 ≤ n ∧ n ≤ 9223372036854775807) → l.wf → RepS w ad l →
  Calls Tryz.prog 56 #[.agg #[.int .i64 k, .int .i64 n, .string s, .slice ad l.len cap]] w fun e w' => e = .returned (.string (putV k n s l)) ∧ Below w.heap.size w w'

theorem infoU8 : (Tryz.prog.info? 5).map (fun i => (i.zero, i.size, i.bytes)) = some (some (.int .u8 0), 1, 1) := by kernel_rfl

/-- What the loop over a list keeps. -/
def PutRel (w : World) (l : F) (ad : Option Addr) (tv iv : Value) (wr : World) : Prop :=
  ∃ (i : Nat) (T : ByteArray) (g : F), iv = .int .i64 i ∧ (∃ a c, tv = .slice a T.size c) ∧ wr.ownsRow w.heap.size 5 1 tv T.size (Lib.strCells T) ∧ T.size ≤ 9999999 ∧ i ≤ T.size ∧ i + g.len = l.len ∧
    Hid (g.All PutQ ∧ g.wf ∧ putF l ⟨#[]⟩ = putF g T) ∧ Hid (g = .nil ∨ ∃ b o, ad = some ⟨b, o, none⟩ ∧ RepF w b (o + i * 4) g) ∧ Below w.heap.size w wr

set_option maxRecDepth 100000 in
set_option maxHeartbeats 4000000 in
theorem put_q (k n : Int) (s : ByteArray) (l : F) (hl : l.All PutQ) : PutQ k n s l := by
  intro ad cap w hpow hn hwf hr
  unfold putV
  by_cases h1 : k = 1
  · subst h1
    rw [if_pos rfl]
    have I := Lib.hid (fun w hw => fmtint_p n hn.1 hn.2 w hw)
    have Fr := Lib.hid (frame_p (decS n) ⟨#[35]⟩ rfl)
    have HP := Lib.hid hpow
    clear hpow hl hr hwf
    have hb0 : Below w.heap.size w (w.alloc (.cells #[.int .i64 1, .int .i64 n, .string s, .slice ad l.len cap] 61)) := (Below.refl _ _).alloc (Nat.le_refl _) _
    have HB0 := Lib.hid hb0
    clear hb0
    generalize decS n = D at *
    go_enter Tryz.func56, Tryz.ntmps56
    go_wp2_with fail
    refine (I.out _ (HP.out.below HB0.out)).mono ?_
    rintro _ w1 ⟨rfl, hb1⟩
    have HB1 := Lib.hid (HB0.out.trans (hb1.mono HB0.out.size))
    clear hb1
    go_wp2_with fail
    refine (Fr.out _ (HP.out.below HB1.out)).mono ?_
    rintro _ w2 ⟨rfl, hb2⟩
    go_wp2_with fail
    go_ret
    exact ⟨rfl, HB1.out.trans (hb2.mono HB1.out.size)⟩
  rw [if_neg h1]
  have b1 : (k == 1) = false := by rw [beq_eq_false_iff_ne]; exact h1
  by_cases h2 : k = 2
  · subst h2
    rw [if_pos rfl]
    have Fr := Lib.hid (frame_p s ⟨#[44]⟩ rfl)
    have HP := Lib.hid hpow
    clear hpow hl hr hwf
    have hb0 : Below w.heap.size w (w.alloc (.cells #[.int .i64 2, .int .i64 n, .string s, .slice ad l.len cap] 61)) := (Below.refl _ _).alloc (Nat.le_refl _) _
    have HB0 := Lib.hid hb0
    clear hb0
    go_enter Tryz.func56, Tryz.ntmps56
    go_wp2_with fail
    refine (Fr.out _ (HP.out.below HB0.out)).mono ?_
    rintro _ w2 ⟨rfl, hb2⟩
    go_wp2_with fail
    go_ret
    exact ⟨rfl, HB0.out.trans (hb2.mono HB0.out.size)⟩
  rw [if_neg h2]
  have b2 : (k == 2) = false := by rw [beq_eq_false_iff_ne]; exact h2
  obtain ⟨R, hR⟩ : ∃ R, (match putF l ⟨#[]⟩ with | none => (⟨#[]⟩ : ByteArray) | some t => frameS t ⟨#[93]⟩) = R := ⟨_, rfl⟩
  rw [hR]
  have HR := Lib.hid hR
  have HP := Lib.hid hpow
  have HL := Lib.hid (And.intro hl hwf)
  have HS := Lib.hid hr
  clear hpow hl hr hwf hR h1 h2 hn
  obtain ⟨i0, hi, hz0, hz1, hz2⟩ := info_parts infoU8
  go_enter Tryz.func56, Tryz.ntmps56
  go_wp2_with fail
  go_loopw [3, 24] (fun tv iv wr => PutRel w l ad tv iv wr) (fun _ i _ => l.len - (intOf i).toNat)
  case atStart =>
    refine ⟨0, ⟨#[]⟩, l, rfl, ⟨_, _, rfl⟩, ⟨rfl, .inr ⟨w.heap.size + 1, 0, #[], rfl, by omega, ?_, by exact Nat.le_refl 0, by unfold maxLen; omega, rfl, rfl⟩⟩, by decide, by decide, by omega, Lib.hid ⟨HL.out.1, HL.out.2, rfl⟩, Lib.hid ?_, ?_⟩
    · have h := heap_alloc_new (w.alloc (.cells #[.int .i64 k, .int .i64 n, .string s, .slice ad l.len cap] 61)) (.cells #[] 5)
      simpa using h
    · rcases HS.out with h | ⟨b, o, e, h⟩
      · exact .inl h
      · exact .inr ⟨b, o, e, by simpa using h⟩
    · exact ((Below.refl _ _).alloc (Nat.le_refl _) _).alloc (by simp) _
  case round =>
    obtain ⟨i, T, g, rfl, ⟨ta, tc, rfl⟩, hown, hT, hiT, hil, HG, HGR, hB⟩ := hrel
    cases g with
    | nil =>
      have hlt : ¬ (i : Int) < (l.len : Int) := by simp only [F.len] at hil; omega
      have hcv := conv_owned hown
      have hRT : R = frameS T ⟨#[93]⟩ := by
        have := HG.out.2.2
        rw [show putF F.nil T = some T from rfl] at this
        rw [← HR.out, this]
      have Fr := Lib.hid (frame_p T ⟨#[93]⟩ rfl wr (HP.out.below hB))
      rw [← hRT] at Fr
      clear hRT hown HR
      go_wp2_with fail
      refine Fr.out.mono ?_
      rintro _ w2 ⟨rfl, hb2⟩
      go_wp2_with fail
      go_ret
      exact ⟨rfl, hB.trans (hb2.mono hB.size)⟩
    | cons k' n' s' l' r' =>
      have hlt : (i : Int) < (l.len : Int) := by simp only [F.len] at hil; omega
      have hlt' : i < l.len := by omega
      obtain ⟨⟨hq, hQr⟩, ⟨hwn, hwl, hwr⟩, hput⟩ := HG.out
      obtain ⟨b, o, rfl, hGw⟩ := HGR.out.resolve_left (by simp)
      obtain ⟨g0, g1, g2, ⟨ad', cap', g3, g4⟩, _⟩ := RepF.kept hB (Nat.le_refl _) _ _ _ hGw
      have g5 := hGw.2.2.2.2
      rw [putF_cons] at hput
      have q0 : wr.cell? ⟨b, o + i * 4 + 0, none⟩ = some (.int .i64 k') := g0
      have hb3 : Below w.heap.size w (wr.alloc (.cells #[.int .i64 k', .int .i64 n', .string s', .slice ad' l'.len cap'] 61)) := hB.alloc hB.size _
      have CQ := Lib.hid (hq ad' cap' (wr.alloc (.cells #[.int .i64 k', .int .i64 n', .string s', .slice ad' l'.len cap'] 61)) (HP.out.below hb3) hwn hwl ((show RepS wr ad' l' from g4).below ((Below.refl _ _).alloc (Nat.le_refl _) _)))
      have HGN := Lib.hid (And.intro hQr (And.intro hwr g5))
      have HLEN := Lib.hid (show i + 1 + r'.len = l.len by simp only [F.len] at hil; omega)
      have HB3 := Lib.hid hb3
      have hVs := putV_size k' n' s' l'
      generalize putV k' n' s' l' = V at *
      have HOWN := Lib.hid hown
      have HBS := Lib.hid hB.size
      clear hb3 hq hQr hwr g5 g4 hwn hwl hil HG HGR hown hB hGw
      by_cases hbad : V.size = 0 ∨ 9999999 < T.size + V.size
      · rw [if_pos hbad] at hput
        have hRe : R = ⟨#[]⟩ := by rw [← HR.out, hput]
        subst hRe
        clear hput
        by_cases hV0 : V.size = 0
        · obtain rfl := empty_of_size hV0
          clear hbad hV0
          go_wp2_with fail
          refine CQ.out.mono ?_
          rintro _ w2 ⟨rfl, hb2⟩
          go_wp2_with fail
          go_ret
          exact ⟨rfl, HB3.out.trans (hb2.mono HB3.out.size)⟩
        · have hV1 : (V.toList.isEmpty) = false := isEmpty_ne (by omega)
          have hV2 : 9999999 < (T.size : Int) + (V.size : Int) := by omega
          have hV3 : (V.size : Int) ≤ 10000022 := by omega
          clear hbad hV0
          go_wp2_with fail
          refine CQ.out.mono ?_
          rintro _ w2 ⟨rfl, hb2⟩
          go_wp2_with fail
          go_ret
          exact ⟨rfl, HB3.out.trans (hb2.mono HB3.out.size)⟩
      · rw [if_neg hbad] at hput
        have hV1 : (V.toList.isEmpty) = false := isEmpty_ne (by omega)
        have hV2 : ¬ 9999999 < (T.size : Int) + (V.size : Int) := by omega
        have hV3 : T.size + V.size ≤ 9999999 := by omega
        have hV4 : ¬ V.size = 0 := by omega
        have HPUT := Lib.hid hput
        clear hbad hput
        go_wp2_with fail
        refine CQ.out.mono ?_
        rintro _ w2 ⟨rfl, hb2⟩
        have hown2 : w2.ownsRow w.heap.size 5 1 (.slice ta T.size tc) T.size (Lib.strCells T) := owns_below (HOWN.out.alloc _) hb2
        have HB2 := Lib.hid hb2
        clear hb2
        have hx1 : T.size + V.size ≤ maxLen := by unfold maxLen; omega
        have hx2 : T.size + V.size ≤ 140737488355328 := by omega
        have hx3 : w.heap.size ≤ w2.heap.size := Nat.le_trans HB3.out.size HB2.out.size
        have HX := Lib.hid (And.intro hx1 (And.intro hx2 (And.intro hx3 hown2)))
        clear hx1 hx2 hx3 hown2
        go_wp2_with (at_builtin; refine Lib.wpList_append_own_string _ rfl (.tmp 40) (.tmp 41) 56 9 rfl w.heap.size 5 i0 Tryz.underlying56 Tryz.underlying9 hi hz0 hz1 hz2 _ _ _ rfl HX.out.2.2.2 V rfl HX.out.1 HX.out.2.1 HX.out.2.2.1 ?_; intro v' w3 hown3 hgrow3 _)
        go_roundw
        case rel =>
          have e1 : (T ++ V).size = T.size + V.size := ByteArray.size_append
          refine ⟨i + 1, T ++ V, r', by go_num, ?_, ?_, by omega, by omega, HLEN.out, Lib.hid ⟨HGN.out.1, HGN.out.2.1, HPUT.out⟩, Lib.hid (.inr ⟨b, o, rfl, ?_⟩), ?_⟩
          · rw [e1]; exact owns_shape hown3
          · rw [e1, strCells_append]; exact hown3
          · rw [show o + (i + 1) * 4 = o + i * 4 + 4 by omega]; exact HGN.out.2.2
          · exact (HB3.out.trans (HB2.out.mono HB3.out.size)).grown hgrow3 HX.out.2.2.1 (owns_base HOWN.out)
        case measure => simp [intOf]; omega

theorem put_all (f : F) : f.All PutQ := F.all_of put_q f

theorem put_p (k n : Int) (s : ByteArray) (l : F) : PutQ k n s l := put_q k n s l (put_all l)

/-- Put's text. -/
def putS (k n : Int) (s : ByteArray) (l : F) : ByteArray := if vmay k n s l then putV k n s l else ⟨#[]⟩

set_option maxRecDepth 100000 in
theorem Put_p (k n : Int) (s : ByteArray) (l : F) (ad : Option Addr) (cap : Nat) (w : World) (h : PowAt w) (hn : -9223372036854775808 ≤ n ∧ n ≤ 9223372036854775807) (hw : l.wf) (hr : RepS w ad l) :
    Calls Tryz.prog 37 #[.agg #[.int .i64 k, .int .i64 n, .string s, .slice ad l.len cap]] w fun e w' => e = .returned (.string (putS k n s l)) ∧ Below w.heap.size w w' := by
  unfold putS
  have hb0 : Below w.heap.size w (w.alloc (.cells #[.int .i64 k, .int .i64 n, .string s, .slice ad l.len cap] 61)) := (Below.refl _ _).alloc (Nat.le_refl _) _
  have M := Lib.hid (vmay_p k n s l ad cap _ (hr.below hb0))
  have HB0 := Lib.hid hb0
  have HH := Lib.hid (And.intro h hr)
  have P := Lib.hid (fun w1 (hp : PowAt w1) (hr1 : RepS w1 ad l) => put_p k n s l ad cap w1 hp hn hw hr1)
  clear hb0 h hr hn hw
  cases hm : vmay k n s l with
  | false =>
    rw [hm] at M
    clear hm
    go_enter Tryz.func37, Tryz.ntmps37
    go_wp2_with fail
    refine M.out.mono ?_
    rintro _ w1 ⟨rfl, hb1⟩
    go_wp2_with fail
    go_ret
    exact ⟨rfl, HB0.out.trans (hb1.mono HB0.out.size)⟩
  | true =>
    rw [hm] at M
    clear hm
    rw [if_pos rfl]
    go_enter Tryz.func37, Tryz.ntmps37
    go_wp2_with fail
    refine M.out.mono ?_
    rintro _ w1 ⟨rfl, hb1⟩
    have HB1 := Lib.hid (HB0.out.trans (hb1.mono HB0.out.size))
    have hcell : w1.cell? ⟨w.heap.size, 0, none⟩ = some (.int .i64 k) := by rw [hb1.cell (by simp)]; go_simp
    have hcell1 : w1.cell? ⟨w.heap.size, 1, none⟩ = some (.int .i64 n) := by rw [hb1.cell (by simp)]; go_simp
    have hcell2 : w1.cell? ⟨w.heap.size, 2, none⟩ = some (.string s) := by rw [hb1.cell (by simp)]; go_simp
    have hcell3 : w1.cell? ⟨w.heap.size, 3, none⟩ = some (.slice ad l.len cap) := by rw [hb1.cell (by simp)]; go_simp
    clear hb1
    go_wp2_with fail
    refine (P.out _ (HH.out.1.below HB1.out) (HH.out.2.below HB1.out)).mono ?_
    rintro _ w2 ⟨rfl, hb2⟩
    go_wp2_with fail
    go_ret
    exact ⟨rfl, HB1.out.trans (hb2.mono HB1.out.size)⟩

end Go.Proofs.YtmamepmfbfinlaaGreatDoor
