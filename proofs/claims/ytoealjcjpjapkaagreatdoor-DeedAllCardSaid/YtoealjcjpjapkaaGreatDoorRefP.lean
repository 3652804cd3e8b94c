/-
 Contracts of the program, and what they rest on.
-/
import Derived.Test.YtoealjcjpjapkaaGreatDoorM11
import Derived.Deep.RegionWith
import Derived.Test.YtoealjcjpjapkaaGreatDoorRA
import Derived.Test.YtoealjcjpjapkaaGreatDoorDigits2
set_option maxRecDepth 100000
set_option maxHeartbeats 16000000
namespace Go.Proofs.YtoealjcjpjapkaaGreatDoor
open Go.RowKit
def SizeQ (k n : Int) (s : ByteArray) (l : F) : Prop := ∀ (left : Int) (ad : Option Addr) (cap : Nat) (w : World), pureB k n s l.len = true → l.ok = true → (l.dep : Int) + 1 ≤ left → left ≤ 1000000 → l.cnt + 1 ≤ 6000 → RepS w ad l →
 Calls Tryz.prog 111 #[.agg #[.int .i64 k, .int .i64 n, .string s, .slice ad l.len cap], .int .i64 left] w fun e w' => e = .returned (.tuple #[.int .i64 ((l.cnt + 1 : Nat) : Int), .int .i64 ((l.dep + 1 : Nat) : Int)]) ∧ Below w.heap.size w w'
def SizeRel (w : World) (l : F) (ad : Option Addr) (cap : Nat) (nv dv iv : Value) (wr : World) : Prop :=
 ∃ (i m dd : Nat) (g : F), iv = .int .i64 i ∧ nv = .int .i64 m ∧ dv = .int .i64 dd ∧ i + g.len = l.len ∧ i < m ∧ m + g.cnt = l.cnt + 1 ∧ Hid (max dd g.dep = l.dep) ∧ Hid (g.All SizeQ ∧ g.ok = true) ∧ (g = .nil ∨ ∃ b o, ad = some ⟨b, o, none⟩ ∧ RepF wr b (o + i * 4) g) ∧ wr.cell? ⟨w.heap.size, 3, none⟩ = some (.slice ad l.len cap) ∧ Hid (Below w.heap.size w wr)
def CelW (w : World) (b : Nat) (k n : Int) (s : ByteArray) (ad : Option Addr) (len cap : Nat) : Prop :=
 w.cell? ⟨b, 0, none⟩ = some (.int .i64 k) ∧ w.cell? ⟨b, 1, none⟩ = some (.int .i64 n) ∧ w.cell? ⟨b, 2, none⟩ = some (.string s) ∧ w.cell? ⟨b, 3, none⟩ = some (.slice ad len cap)
theorem CelW.below {w w' : World} {b : Nat} {k n : Int} {s : ByteArray} {ad : Option Addr} {len cap : Nat} (h : CelW w b k n s ad len cap) (hb : Below w.heap.size w w') : CelW w' b k n s ad len cap := by
 have hl : b < w.heap.size := World.block_lt_of_cell? w _ h.1
 obtain ⟨h0, h1, h2, h3⟩ := h
 exact ⟨by rw [hb.cell hl]; exact h0, by rw [hb.cell hl]; exact h1, by rw [hb.cell hl]; exact h2, by rw [hb.cell hl]; exact h3⟩
theorem pureB_kinds {k n : Int} {s : ByteArray} {len : Nat} (h : pureB k n s len = true) : (k = 1 ∧ s = ⟨#[]⟩ ∧ len = 0) ∨ (k = 2 ∧ n = 0 ∧ len = 0) ∨ (k = 3 ∧ n = 0 ∧ s = ⟨#[]⟩) := by
 have he : ∀ {t : ByteArray}, t.toList.isEmpty = true → t = ⟨#[]⟩ := fun {t} h => by
  rw [ByteArray.toList_eq, List.isEmpty_iff] at h
  exact ByteArray.ext (Array.toList_inj.1 h)
 unfold pureB at h
 by_cases h1 : k = 1
 ·rw [if_pos h1] at h
  simp only [Bool.and_eq_true, decide_eq_true_eq] at h
  exact .inl ⟨h1, he h.1, h.2⟩
 rw [if_neg h1] at h
 by_cases h2 : k = 2
 ·rw [if_pos h2] at h
  simp only [Bool.and_eq_true, decide_eq_true_eq] at h
  exact .inr (.inl ⟨h2, h.1, h.2⟩)
 rw [if_neg h2] at h
 by_cases h3 : k = 3
 ·rw [if_pos h3] at h
  simp only [Bool.and_eq_true, decide_eq_true_eq] at h
  exact .inr (.inr ⟨h3, h.1, he h.2⟩)
 rw [if_neg h3] at h
 cases h
theorem F.nil_of_len {l : F} (h : l.len = 0) : l = .nil := by
 cases l with
 | nil => rfl
 | cons => simp [F.len] at h
theorem F.dep_le : ∀ f : F, f.dep ≤ f.cnt
 | .nil => Nat.le_refl _
 | .cons _ _ _ l r => by
  have h1 := F.dep_le l
  have h2 := F.dep_le r
  simp only [F.dep, F.cnt]
  omega
theorem size_q (k n : Int) (s : ByteArray) (l : F) (hl : l.All SizeQ) : SizeQ k n s l := by
 intro left ad cap w hp hok hd hleft hc hr
 have hl0 : ¬ left < 1 := by omega
 have hb0 : ∀ t, Below w.heap.size w (w.alloc (.cells #[.int .i64 k, .int .i64 n, .string s, .slice ad l.len cap] t)) := fun t => (Below.refl _ _).alloc (Nat.le_refl _) _
 have HB0 := Lib.hid (hb0 45)
 clear hb0
 rcases pureB_kinds hp with ⟨rfl, rfl, h0⟩ | ⟨rfl, rfl, h0⟩ | ⟨rfl, rfl, rfl⟩
 ·obtain rfl := F.nil_of_len h0
  clear hp hok hd hc hr hl h0
  simp only [F.len, F.cnt, F.dep] at HB0 ⊢
  go_enter Tryz.func111, Tryz.ntmps111
  go_wp2_with fail
  exact bodyPost_ret (v := .tuple #[.int .i64 1, .int .i64 1]) (by simp [results, Tryz.results111, go_sem]) rfl ⟨rfl, HB0.out⟩
 ·obtain rfl := F.nil_of_len h0
  clear hp hok hd hc hr hl h0
  simp only [F.len, F.cnt, F.dep] at HB0 ⊢
  go_enter Tryz.func111, Tryz.ntmps111
  go_wp2_with fail
  exact bodyPost_ret (v := .tuple #[.int .i64 1, .int .i64 1]) (by simp [results, Tryz.results111, go_sem]) rfl ⟨rfl, HB0.out⟩
 ·have HL := Lib.hid (And.intro hl hok)
  have HR := Lib.hid hr
  have HD := Lib.hid (And.intro hd hleft)
  have hlc := F.len_le_cnt l
  have hlen : l.len ≤ 6000 := by omega
  have hdl := F.dep_le l
  clear hl hok hr hp hd
  go_enter Tryz.func111, Tryz.ntmps111
  go_wp2_with fail
  go_loopw [6, 7, 8] (fun nv dv iv wr => SizeRel w l ad cap nv dv iv wr) (fun _ _ iv _ => l.len - (intOf iv).toNat)
  case atStart =>
   refine ⟨0, 1, 0, l, rfl, rfl, rfl, by omega, by omega, by omega, Lib.hid (by omega), HL, ?_, ?_, HB0⟩
   ·rcases HR.out with h | ⟨b, o, e, h⟩
    ·exact .inl h
    ·exact .inr ⟨b, o, e, by simpa using RepF.kept HB0.out (Nat.le_refl _) l _ _ h⟩
   ·go_simp
  case round =>
   obtain ⟨i, m, dd, g, rfl, rfl, rfl, hil, him, hmc, hmd, HG, hG, c3, HB⟩ := hrel
   cases g with
   | nil =>
    have hlt : ¬ (i : Int) < (l.len : Int) := by simp only [F.len] at hil; omega
    have hm : m = l.cnt + 1 := by simp only [F.cnt] at hmc; omega
    have hdd : dd = l.dep := by have := hmd.out; simp only [F.dep] at this; omega
    subst hm hdd
    clear hmc hil him hG hmd HG
    have hx : (l.dep : Int) + 1 ≤ 6001 := by omega
    go_wp2_with fail
    exact bodyPost_ret (v := .tuple #[.int .i64 ((l.cnt + 1 : Nat) : Int), .int .i64 ((l.dep + 1 : Nat) : Int)]) (by simp [results, Tryz.results111, go_sem]) rfl ⟨rfl, HB.out⟩
   | cons k' n' s' l' r' =>
    have hlt : (i : Int) < (l.len : Int) := by simp only [F.len] at hil; omega
    have hlt' : i < l.len := by omega
    obtain ⟨b, o, rfl, g0, g1, g2, ⟨ad', cap', g3, g4⟩, g5⟩ := hG.resolve_left (by simp)
    obtain ⟨⟨hq, hQr⟩, hgok⟩ := HG.out
    simp only [F.ok, Bool.and_eq_true] at hgok
    obtain ⟨⟨hp', hok'⟩, hokr⟩ := hgok
    have hmd' := hmd.out
    simp only [F.cnt, F.dep] at hmc hmd'
    have hc1 : l'.cnt + 1 ≤ 6000 := by omega
    have hd1 := F.dep_le l'
    have HC := Lib.hid (fun W (h : RepS W ad' l') => hq (left - 1) ad' cap' W hp' hok' (by have := HD.out.1; omega) (by have := HD.out.2; omega) hc1 h)
    have HNX := Lib.hid (And.intro hQr (And.intro hokr g5))
    have H4 := Lib.hid (show RepS wr ad' l' from g4)
    have HLEN := Lib.hid (And.intro (show i + 1 + r'.len = l.len by simp only [F.len] at hil; omega) (And.intro (show m + (l'.cnt + 1) + r'.cnt = l.cnt + 1 by omega) (show max (max dd (l'.dep + 1)) r'.dep = l.dep by omega)))
    obtain ⟨c, hcc⟩ : ∃ c, l'.cnt + 1 = c := ⟨_, rfl⟩
    obtain ⟨d, hdc⟩ : ∃ d, l'.dep + 1 = d := ⟨_, rfl⟩
    rw [hcc] at HC HLEN hc1
    rw [hdc] at HC HLEN
    have hdc6 : d ≤ 6000 := by omega
    have hc0 : 0 < c := by omega
    have hdd6 : dd ≤ 6000 := by omega
    have hm6 : m + c ≤ 6001 := by omega
    have hm7 : m ≤ 6000 := by omega
    have hcp : ¬ (c : Int) < 0 := by omega
    have hmp : ¬ (6000 : Int) < (m : Int) := by omega
    have hl1 : left ≤ 1000000 := HD.out.2
    have q0 : wr.cell? ⟨b, o + i * 4 + 0, none⟩ = some (.int .i64 k') := g0
    clear hq hQr hokr g5 g4 hil hmc hmd hmd' hG HG hp' hok' hcc hdc hd1 hdl hlc hc
    go_wp2_with fail
    refine (HC.out _ H4.out).mono ?_
    rintro _ w1 ⟨rfl, hb1⟩
    have HB1 := Lib.hid hb1
    have k3 := cell_kept hb1 (Nat.le_refl _) c3
    clear hb1 c3
    go_wp2_with fail
    go_roundw
    case rel =>
     refine ⟨i + 1, m + c, max dd d, r', by go_num, by go_num, ?_, HLEN.out.1, by omega, HLEN.out.2.1, Lib.hid HLEN.out.2.2, Lib.hid ⟨HNX.out.1, HNX.out.2.1⟩, .inr ⟨b, o, rfl, ?_⟩, k3, Lib.hid (HB.out.trans (HB1.out.mono HB.out.size))⟩
     ·first | rfl | (congr 1; omega) | go_num
     ·rw [show o + (i + 1) * 4 = o + i * 4 + 4 by omega]
      exact RepF.kept HB1.out (Nat.le_refl _) _ _ _ HNX.out.2.2
    case measure => simp [intOf]; omega
theorem size_all (f : F) : f.All SizeQ := F.all_of size_q f
theorem size_p (k n : Int) (s : ByteArray) (l : F) : SizeQ k n s l := size_q k n s l (size_all l)
theorem rvmay_p (k n : Int) (s : ByteArray) (l : F) (ad : Option Addr) (cap : Nat) (w : World) (hm : vmay k n s l = true) (hr : RepS w ad l) :
  Calls Tryz.prog 68 #[.agg #[.int .i64 k, .int .i64 n, .string s, .slice ad l.len cap]] w fun e w' => e = .returned (.bool true) ∧ Below w.heap.size w w' := by
 unfold vmay vmayB at hm
 simp only [Bool.and_eq_true, decide_eq_true_eq] at hm
 obtain ⟨⟨⟨h1, h2⟩, h3⟩, h4⟩ := hm
 have hb0 : ∀ t, Below w.heap.size w (w.alloc (.cells #[.int .i64 k, .int .i64 n, .string s, .slice ad l.len cap] t)) := fun t => (Below.refl _ _).alloc (Nat.le_refl _) _
 have HB0 := Lib.hid (hb0 45)
 have H := Lib.hid (size_p k n s l 6 ad cap _ h1 h2 h3 (by omega) (by omega) (hr.below HB0.out))
 clear hb0
 have hc : l.cnt + 1 ≤ 6000 := by omega
 generalize l.cnt = c at *
 clear h1 h2 h3 h4 hr
 go_enter Tryz.func68, Tryz.ntmps68
 go_wp2_with fail
 refine H.out.mono ?_
 rintro _ w1 ⟨rfl, hb1⟩
 have h5 : (1 : Int) ≤ (c : Int) + 1 := by omega
 have h6 : (c : Int) + 1 ≤ 6000 := by omega
 go_wp2_with fail
 go_ret
 exact ⟨rfl, HB0.out.trans (hb1.mono HB0.out.size)⟩
def RputQ (k n : Int) (s : ByteArray) (l : F) : Prop := ∀ (ad : Option Addr) (cap : Nat) (w : World), pureB k n s l.len = true → l.ok = true → (-9223372036854775808 ≤ n ∧ n ≤ 9223372036854775807) → l.wf → ¬ (putV k n s l).size = 0 → RepS w ad l →
 Calls Tryz.prog 69 #[.agg #[.int .i64 k, .int .i64 n, .string s, .slice ad l.len cap]] w fun e w' => e = .returned (.string (putV k n s l)) ∧ Below w.heap.size w w'
def RputRel (w : World) (l : F) (TT : ByteArray) (ad : Option Addr) (cap : Nat) (tv iv : Value) (wr : World) : Prop :=
 ∃ (i : Nat) (T : ByteArray) (g : F), iv = .int .i64 i ∧ tv = .string T ∧ T.size ≤ 9999999 ∧ i ≤ T.size ∧ i + g.len = l.len ∧ Hid (g.All RputQ ∧ g.ok = true ∧ g.wf ∧ putF g T = some TT) ∧ (g = .nil ∨ ∃ b o, ad = some ⟨b, o, none⟩ ∧ RepF wr b (o + i * 4) g) ∧ wr.cell? ⟨w.heap.size, 3, none⟩ = some (.slice ad l.len cap) ∧ Hid (Below w.heap.size w wr)
theorem frameS_fits {t e : ByteArray} (h : ¬ (frameS t e).size = 0) : t.size ≤ 9999999 := by
 unfold frameS at h
 by_cases h1 : t.size ≤ 9999999
 ·exact h1
 ·rw [if_neg h1] at h
  exact absurd rfl h
theorem rput_q (k n : Int) (s : ByteArray) (l : F) (hl : l.All RputQ) : RputQ k n s l := by
 intro ad cap w hp hok hn hwf hsz hr
 have hb0 : ∀ t, Below w.heap.size w (w.alloc (.cells #[.int .i64 k, .int .i64 n, .string s, .slice ad l.len cap] t)) := fun t => (Below.refl _ _).alloc (Nat.le_refl _) _
 have HB0 := Lib.hid (hb0 45)
 clear hb0
 rcases pureB_kinds hp with ⟨rfl, rfl, h0⟩ | ⟨rfl, rfl, h0⟩ | ⟨rfl, rfl, rfl⟩
 ·obtain rfl := F.nil_of_len h0
  have e : putV 1 n ⟨#[]⟩ .nil = frameS (decS n) ⟨#[35]⟩ := rfl
  rw [e] at hsz ⊢
  have hf := frameS_fits hsz
  have R1 := Lib.hid (rDigits n hn.1 hn.2)
  have hd := decS_size n hn.1 hn.2
  rw [← frame_eq _ _ hf]
  generalize decS n = D at *
  have R2 := Lib.hid (rDigits (D.size : Int) (by omega) (by omega))
  have hd2 : (decS (D.size : Int)).size ≤ 21 := decS_size _ (by omega) (by omega)
  generalize decS (D.size : Int) = D2 at *
  have z1 : ¬ 9223372036854775807 < D2.size + 1 := by omega
  have z2 : ¬ 9223372036854775807 < D2.size + 1 + D.size := by omega
  have z3 : ¬ 9223372036854775807 < D2.size + 1 + D.size + 1 := by omega
  clear hp hok hn hwf hsz hr hl h0 e hf
  simp only [F.len] at HB0 ⊢
  go_enter Tryz.func69, Tryz.ntmps69
  go_wp2_with fail
  refine (R1.out _).mono ?_
  rintro _ w1 ⟨rfl, hb1⟩
  have HB1 := Lib.hid (HB0.out.trans (hb1.mono HB0.out.size))
  clear hb1
  go_wp2_with fail
  refine (R2.out _).mono ?_
  rintro _ w2 ⟨rfl, hb2⟩
  have HB2 := Lib.hid (HB1.out.trans (hb2.mono HB1.out.size))
  clear hb2
  go_wp2_with fail
  go_ret
  exact ⟨rfl, HB2.out⟩
 ·obtain rfl := F.nil_of_len h0
  have e : putV 2 0 s .nil = frameS s ⟨#[44]⟩ := rfl
  rw [e] at hsz ⊢
  have hf := frameS_fits hsz
  rw [← frame_eq _ _ hf]
  have R2 := Lib.hid (rDigits (s.size : Int) (by omega) (by omega))
  have hd2 : (decS (s.size : Int)).size ≤ 21 := decS_size _ (by omega) (by omega)
  generalize decS (s.size : Int) = D2 at *
  have z1 : ¬ 9223372036854775807 < D2.size + 1 := by omega
  have z2 : ¬ 9223372036854775807 < D2.size + 1 + s.size := by omega
  have z3 : ¬ 9223372036854775807 < D2.size + 1 + s.size + 1 := by omega
  clear hp hok hn hwf hsz hr hl h0 e
  simp only [F.len] at HB0 ⊢
  go_enter Tryz.func69, Tryz.ntmps69
  go_wp2_with fail
  refine (R2.out _).mono ?_
  rintro _ w2 ⟨rfl, hb2⟩
  have HB2 := Lib.hid (HB0.out.trans (hb2.mono HB0.out.size))
  have q2 := hb2.cell (p := ⟨w.heap.size, 2, none⟩) (by simp)
  clear hb2
  go_wp2_with fail
  go_ret
  exact ⟨rfl, HB2.out⟩
 ·have e : putV 3 0 ⟨#[]⟩ l = (match putF l ⟨#[]⟩ with | none => ⟨#[]⟩ | some t => frameS t ⟨#[93]⟩) := rfl
  rw [e] at hsz ⊢
  obtain ⟨TT, hTT⟩ : ∃ TT, putF l ⟨#[]⟩ = some TT := by
   cases h : putF l ⟨#[]⟩ with
   | none => rw [h] at hsz; exact absurd rfl hsz
   | some t => exact ⟨t, rfl⟩
  rw [hTT] at hsz ⊢
  dsimp only at hsz ⊢
  have hf := frameS_fits hsz
  rw [← frame_eq _ _ hf]
  have HL := Lib.hid (And.intro hl (And.intro hok (And.intro hwf hTT)))
  have HR := Lib.hid hr
  have R2 := Lib.hid (rDigits (TT.size : Int) (by omega) (by omega))
  have hd2 : (decS (TT.size : Int)).size ≤ 21 := decS_size _ (by omega) (by omega)
  generalize decS (TT.size : Int) = D2 at *
  have z1 : ¬ 9223372036854775807 < D2.size + 1 := by omega
  have z2 : ¬ 9223372036854775807 < D2.size + 1 + TT.size := by omega
  have z3 : ¬ 9223372036854775807 < D2.size + 1 + TT.size + 1 := by omega
  clear hl hok hwf hTT hr hp hsz e hn
  go_enter Tryz.func69, Tryz.ntmps69
  go_wp2_with fail
  go_loopw [3, 5] (fun tv iv wr => RputRel w l TT ad cap tv iv wr) (fun _ iv _ => l.len - (intOf iv).toNat)
  case atStart =>
   refine ⟨0, ⟨#[]⟩, l, rfl, rfl, by decide, by omega, by omega, HL, ?_, ?_, HB0⟩
   ·rcases HR.out with h | ⟨b, o, e, h⟩
    ·exact .inl h
    ·exact .inr ⟨b, o, e, by simpa using RepF.kept HB0.out (Nat.le_refl _) l _ _ h⟩
   ·go_simp
  case round =>
   obtain ⟨i, T, g, rfl, rfl, hT, hiT, hil, HG, hG, c3, HB⟩ := hrel
   cases g with
   | nil =>
    have hlt : ¬ (i : Int) < (l.len : Int) := by simp only [F.len] at hil; omega
    obtain rfl : T = TT := by
     have := HG.out.2.2.2
     rw [show putF F.nil T = some T from rfl] at this
     exact Option.some.inj this
    clear hG HG HL HR hil hiT
    go_wp2_with fail
    refine (R2.out _).mono ?_
    rintro _ w2 ⟨rfl, hb2⟩
    have HB2 := Lib.hid (HB.out.trans (hb2.mono HB.out.size))
    clear hb2
    go_wp2_with fail
    go_ret
    exact ⟨rfl, HB2.out⟩
   | cons k' n' s' l' r' =>
    have hlt : (i : Int) < (l.len : Int) := by simp only [F.len] at hil; omega
    have hlt' : i < l.len := by omega
    obtain ⟨b, o, rfl, g0, g1, g2, ⟨ad', cap', g3, g4⟩, g5⟩ := hG.resolve_left (by simp)
    obtain ⟨⟨hq, hQr⟩, hgok, ⟨hwn, hwl, hwr⟩, hput⟩ := HG.out
    simp only [F.ok, Bool.and_eq_true] at hgok
    obtain ⟨⟨hp', hok'⟩, hokr⟩ := hgok
    rw [putF_cons] at hput
    have hbad : ¬ ((putV k' n' s' l').size = 0 ∨ 9999999 < T.size + (putV k' n' s' l').size) := by
     intro h
     rw [if_pos h] at hput
     cases hput
    rw [if_neg hbad] at hput
    have HC := Lib.hid (fun W (h : RepS W ad' l') => hq ad' cap' W hp' hok' hwn hwl (by omega) h)
    have HNX := Lib.hid (And.intro hQr (And.intro hokr (And.intro hwr (And.intro hput g5))))
    have H4 := Lib.hid (show RepS wr ad' l' from g4)
    have HLEN := Lib.hid (show i + 1 + r'.len = l.len by simp only [F.len] at hil; omega)
    generalize putV k' n' s' l' = V at *
    have hV1 : T.size + V.size ≤ 9999999 := by omega
    have hV2 : 0 < V.size := by omega
    have zV : ¬ 9223372036854775807 < T.size + V.size := by omega
    have q0 : wr.cell? ⟨b, o + i * 4 + 0, none⟩ = some (.int .i64 k') := g0
    clear hq hQr hokr g5 g4 hil hG HG hp' hok' hput hbad hwn hwl hwr
    go_wp2_with fail
    refine (HC.out _ H4.out).mono ?_
    rintro _ w1 ⟨rfl, hb1⟩
    have HB1 := Lib.hid hb1
    have k3 := cell_kept hb1 (Nat.le_refl _) c3
    clear hb1 c3
    go_wp2_with fail
    go_roundw
    case rel =>
     have e1 : (T ++ V).size = T.size + V.size := ByteArray.size_append
     refine ⟨i + 1, T ++ V, r', by go_num, rfl, by omega, by omega, HLEN.out, Lib.hid ⟨HNX.out.1, HNX.out.2.1, HNX.out.2.2.1, HNX.out.2.2.2.1⟩, .inr ⟨b, o, rfl, ?_⟩, k3, Lib.hid (HB.out.trans (HB1.out.mono HB.out.size))⟩
     rw [show o + (i + 1) * 4 = o + i * 4 + 4 by omega]
     exact RepF.kept HB1.out (Nat.le_refl _) _ _ _ HNX.out.2.2.2.2
    case measure => simp [intOf]; omega
theorem rput_all (f : F) : f.All RputQ := F.all_of rput_q f
theorem rput_p (k n : Int) (s : ByteArray) (l : F) : RputQ k n s l := rput_q k n s l (rput_all l)
theorem rPut_p (k n : Int) (s : ByteArray) (l : F) (ad : Option Addr) (cap : Nat) (w : World) (hm : vmay k n s l = true) (hn : -9223372036854775808 ≤ n ∧ n ≤ 9223372036854775807) (hwf : l.wf) (hsz : ¬ (putV k n s l).size = 0) (hr : RepS w ad l) :
  Calls Tryz.prog 26 #[.agg #[.int .i64 k, .int .i64 n, .string s, .slice ad l.len cap]] w fun e w' => e = .returned (.string (putV k n s l)) ∧ Below w.heap.size w w' := by
 have M := Lib.hid (rvmay_p k n s l ad cap)
 have hm' := hm
 unfold vmay vmayB at hm'
 simp only [Bool.and_eq_true, decide_eq_true_eq] at hm'
 have P := Lib.hid (fun W h => rput_p k n s l ad cap W hm'.1.1.1 hm'.1.1.2 hn hwf hsz h)
 have HR := Lib.hid (And.intro hm hr)
 have hb0 : ∀ t, Below w.heap.size w (w.alloc (.cells #[.int .i64 k, .int .i64 n, .string s, .slice ad l.len cap] t)) := fun t => (Below.refl _ _).alloc (Nat.le_refl _) _
 have HB0 := Lib.hid (hb0 45)
 have hV : ∀ ty, CelW (w.alloc (.cells #[.int .i64 k, .int .i64 n, .string s, .slice ad l.len cap] ty)) w.heap.size k n s ad l.len cap := by
  intro ty
  refine ⟨?_, ?_, ?_, ?_⟩ <;> go_simp
 have HV := Lib.hid (hV 45)
 clear hm hm' hn hwf hsz hr hb0 hV
 generalize putV k n s l = V at *
 go_enter Tryz.func26, Tryz.ntmps26
 go_wp2_with fail
 refine (M.out _ HR.out.1 (HR.out.2.below HB0.out)).mono ?_
 rintro _ w1 ⟨rfl, hb1⟩
 obtain ⟨c0, c1, c2, c3⟩ := HV.out.below hb1
 have HB1 := Lib.hid (HB0.out.trans (hb1.mono HB0.out.size))
 clear hb1
 go_wp2_with fail
 refine (P.out _ (HR.out.2.below HB1.out)).mono ?_
 rintro _ w2 ⟨rfl, hb2⟩
 go_wp2_with fail
 go_ret
 exact ⟨rfl, HB1.out.trans (hb2.mono HB1.out.size)⟩
end Go.Proofs.YtoealjcjpjapkaaGreatDoor
