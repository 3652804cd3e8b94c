/-
  Contracts of the program, and what they rest on.
-/
import Derived.WalkLawsBesides
import Derived.Test.YtaacdggjkfmehaaGreatDoorProg
import Derived.Test.YtaacdggjkfmehaaGreatDoorM05
import Derived.WalkKit
import Derived.WalkSpells
import Derived.Lib.Hide
import Derived.Deep.QuietTactic
import Derived.BigQuiet
import Derived.StillTailTactics
import Derived.LoopTactic
import Derived.Deep.RegionWith
import Derived.Test.YtaacdggjkfmehaaGreatDoorM06
import Derived.BigRegion
import Derived.Test.YtaacdggjkfmehaaGreatDoorShelf
import Derived.Lib.AtoiErrMem
import Derived.Lib.AppendIntMem
import Derived.Lib.QuietBelow
import Derived.Test.YtaacdggjkfmehaaGreatDoorM03
namespace Go.Proofs.Cpl
def red (p : Int × Int) : Int × Int := (p.1 % 65521, p.2 % 65521)
def cadd (p q : Int × Int) : Int × Int := (p.1 + q.1, p.2 + q.2)
def cmul (p q : Int × Int) : Int × Int := (p.1 * q.1 - p.2 * q.2, p.1 * q.2 + p.2 * q.1)
def gadd (p q : Int × Int) : Int × Int := red (cadd p q)
def gmul (p q : Int × Int) : Int × Int := red (cmul p q)
def Ok (p : Int × Int) : Prop := (0 ≤ p.1 ∧ p.1 ≤ 65520) ∧ (0 ≤ p.2 ∧ p.2 ≤ 65520)
theorem ok_red (p : Int × Int) : Ok (red p) := by unfold Ok red; omega
theorem ok_gadd (p q : Int × Int) : Ok (gadd p q) := ok_red _
theorem ok_gmul (p q : Int × Int) : Ok (gmul p q) := ok_red _
def gon (z : Int × Int) (l : List UInt8) : Int × Int := l.foldl (fun z x => gadd (gmul z (3, 5)) ((x.toNat : Int) + 1, 0)) z
theorem ok_gon {z : Int × Int} (h : Ok z) (l : List UInt8) : Ok (gon z l) := by
  induction l generalizing z with
  | nil => exact h
  | cons x l ih => exact ih (ok_gadd _ _)
theorem gon_append (z : Int × Int) (l m : List UInt8) : gon z (l ++ m) = gon (gon z l) m := List.foldl_append ..
theorem gon_snoc (z : Int × Int) (l : List UInt8) (x : UInt8) : gon z (l ++ [x]) = gadd (gmul (gon z l) (3, 5)) ((x.toNat : Int) + 1, 0) := by
  rw [gon_append]; rfl
end Go.Proofs.Cpl
namespace Go.Proofs.YtaacdggjkfmehaaGreatDoor
open Go.RowKit Go.Proofs.Flo Go.Proofs.Cpl
def At (w : World) (b : Nat) (p : Int × Int) : Prop :=
  (w.cell? ⟨b, 0, none⟩ = some (.int .i64 p.1) ∧ w.cell? ⟨b, 1, none⟩ = some (.int .i64 p.2)) ∧ (w.frozen? ⟨b, 0, none⟩ = false ∧ w.frozen? ⟨b, 1, none⟩ = false) ∧ b < w.heap.size
theorem At.set {w : World} {b : Nat} {p q : Int × Int} (h : At w b p) : At ((w.setCell ⟨b, 0, none⟩ (.int .i64 q.1)).setCell ⟨b, 1, none⟩ (.int .i64 q.2)) b q := by
  obtain ⟨⟨c0, c1⟩, ⟨z0, z1⟩, hs⟩ := h
  refine ⟨⟨?_, ?_⟩, ⟨?_, ?_⟩, ?_⟩
  · go_simp
  · go_simp
  · go_simp
  · go_simp
  · simpa using hs
end Go.Proofs.YtaacdggjkfmehaaGreatDoor
namespace Go.Proofs.YtaacdggjkfmehaaGreatDoor
open Go.RowKit Go.Proofs.Flo Go.Proofs.Cpl
def gc (p : Int × Int) : Value := .complex .f64 (fk 0 p.1) (fk 0 p.2)
theorem mul_gc (p q : Int × Int) (hp : Ok p) (hq : Ok q) (w : World) :
    Calls Tryz.prog 132 #[.complex .f64 (fk 0 p.1) (fk 0 p.2), .complex .f64 (fk 0 q.1) (fk 0 q.2)] w fun e w' => e = .returned (.complex .f64 (fk 0 (gmul p q).1) (fk 0 (gmul p q).2)) ∧ w = w' :=
  mul_gz p.1 p.2 q.1 q.2 hp.1 hp.2 hq.1 hq.2 w
theorem add_gc (p q : Int × Int) (hp : Ok p) (hq : Ok q) (w : World) :
    Calls Tryz.prog 131 #[.complex .f64 (fk 0 p.1) (fk 0 p.2), .complex .f64 (fk 0 q.1) (fk 0 q.2)] w fun e w' => e = .returned (.complex .f64 (fk 0 (gadd p q).1) (fk 0 (gadd p q).2)) ∧ w = w' :=
  add_gz p.1 p.2 q.1 q.2 hp.1 hp.2 hq.1 hq.2 w
theorem may_gc (p : Int × Int) (hp : Ok p) (w : World) :
    Calls Tryz.prog 119 #[.complex .f64 (fk 0 p.1) (fk 0 p.2)] w fun e w' => e = .returned (.bool true) ∧ w = w' :=
  may_gz p.1 p.2 hp.1 hp.2 w
theorem fk_one : fk 0 1 = 4607182418800017408 := by decide
theorem fk_three : fk 0 3 = 4613937818241073152 := by decide
theorem fk_five : fk 0 5 = 4617315517961601024 := by decide
def BytesAt (w : World) (b off : Nat) (l : List UInt8) : Prop := ∀ i (h : i < l.length), w.cell? ⟨b, off + i, none⟩ = some (.int .u8 (l[i].toNat : Int))
theorem mul35 (p : Int × Int) (hp : Ok p) (w : World) :
    Calls Tryz.prog 132 #[.complex .f64 (fk 0 p.1) (fk 0 p.2), .complex .f64 4613937818241073152 4617315517961601024] w fun e w' => e = .returned (.complex .f64 (fk 0 (gmul p (3, 5)).1) (fk 0 (gmul p (3, 5)).2)) ∧ w = w' := by
  have h := mul_gc p (3, 5) hp (by unfold Ok; decide) w
  simp only [fk_three, fk_five] at h
  exact h
theorem add_byte (p : Int × Int) (n : Int) (hp : Ok p) (h0 : 0 ≤ n) (h1 : n ≤ 65520) (w : World) :
    Calls Tryz.prog 131 #[.complex .f64 (fk 0 p.1) (fk 0 p.2), .complex .f64 (fk 0 n) 0] w fun e w' => e = .returned (.complex .f64 (fk 0 (gadd p (n, 0)).1) (fk 0 (gadd p (n, 0)).2)) ∧ w = w' := by
  have h := add_gc p (n, 0) hp ⟨⟨h0, h1⟩, ⟨by simp, by simp⟩⟩ w
  simp only [fk_zero] at h
  exact h
theorem list_take_snoc (l : List UInt8) (k : Nat) (h : k < l.length) : l.take (k + 1) = l.take k ++ [l[k]] := by
  rw [List.take_succ_eq_append_getElem h]
set_option maxRecDepth 100000 in
set_option maxHeartbeats 400000 in
theorem on_gc (z : Int × Int) (b off cap : Nat) (l : List UInt8) (hz : Ok z) (hl : l.length ≤ maxLen) (w : World) (hc : BytesAt w b off l) :
    Calls Tryz.prog 121 #[.complex .f64 (fk 0 z.1) (fk 0 z.2), .slice (some ⟨b, off, none⟩) l.length cap] w fun e w' => e = .returned (gc (gon z l)) ∧ w = w' := by
  unfold maxLen at hl
  have HC := Lib.hid hc
  clear hc
  go_enter Tryz.func121, Tryz.ntmps121
  go_wp2_with fail
  refine (may_gc z hz _).mono ?_
  rintro e w' ⟨rfl, rfl⟩
  go_wp2_with fail
  go_loop [0, 12] (fun a i => ∃ k : Nat, k ≤ l.length ∧ i = .int .i64 k ∧ a = gc (gon z (l.take k))) (fun _ i => l.length - (intOf i).toNat)
  case atStart => exact ⟨0, Nat.zero_le _, rfl, rfl⟩
  case round =>
    obtain ⟨k, hk, rfl, rfl⟩ := hrel
    by_cases hlt : k < l.length
    · have hok := ok_gon hz (l.take k)
      have hsn := Lib.hid (gon_snoc z (l.take k) l[k])
      have hts := Lib.hid (list_take_snoc l k hlt)
      have hu := l[k].toNat_lt
      have hcell := HC.out k hlt
      generalize hg : gon z (l.take k) = g at *
      have HG := Lib.hid hg
      clear hg
      generalize l[k] = c at *
      have hlt' : (k : Int) < (l.length : Int) := by omega
      have q1 : floatOfInt .f64 (c.toNat : Int) = fk 0 (c.toNat : Int) := floatOfInt_eq _ (by omega)
      have q2 := fun t w => run_float_arith (P := Tryz.prog) w .add t .f64 (fk 0 (c.toNat : Int)) 4607182418800017408 (fk 0 ((c.toNat : Int) + 1)) (by
        rw [← fk_one]
        exact add_fk 0 _ _ (by omega) (by omega) (by omega) (by omega))
      unfold gc
      go_wp2_with fail
      refine (mul35 g hok _).mono ?_
      rintro e w' ⟨rfl, rfl⟩
      go_wp2_with fail
      refine (add_byte (gmul g (3, 5)) _ (ok_gmul _ _) (by omega) (by omega) _).mono ?_
      rintro e w' ⟨rfl, rfl⟩
      go_wp2_with fail
      go_round
      case rel => exact ⟨k + 1, by omega, by go_num, by rw [hts.out, hsn.out]⟩
      case measure => simp [intOf]; omega
    · have hkn : l.take k = l := List.take_of_length_le (by omega)
      rw [hkn]
      unfold gc
      go_wp2_with fail
      go_ret
      exact ⟨rfl, rfl⟩
theorem on_nil (z : Int × Int) (hz : Ok z) (w : World) :
    Calls Tryz.prog 121 #[.complex .f64 (fk 0 z.1) (fk 0 z.2), .slice none 0 0] w fun e w' => e = .returned (gc z) ∧ w = w' := by
  go_enter Tryz.func121, Tryz.ntmps121
  go_wp2_with fail
  refine (may_gc z hz _).mono ?_
  rintro e w' ⟨rfl, rfl⟩
  go_wp2_with fail
  go_loop [0, 12] (fun a i => i = .int .i64 0 ∧ a = gc z) (fun _ _ => 0)
  case atStart => exact ⟨rfl, rfl⟩
  case round =>
    obtain ⟨rfl, rfl⟩ := hrel
    unfold gc
    go_wp2_with fail
    go_ret
    exact ⟨rfl, rfl⟩
theorem ok_i : Ok (0, 1) := by unfold Ok; decide
theorem mark_gc (b off cap : Nat) (l : List UInt8) (hl : l.length ≤ maxLen) (w : World) (hc : BytesAt w b off l) :
    Calls Tryz.prog 108 #[.slice (some ⟨b, off, none⟩) l.length cap] w fun e w' => e = .returned (gc (gon (0, 1) l)) ∧ w = w' := by
  have h := on_gc (0, 1) b off cap l ok_i hl w hc
  simp only [fk_zero, fk_one] at h
  have H := Lib.hid h
  clear h hc
  unfold gc at *
  go_enter Tryz.func108, Tryz.ntmps108
  go_wp2_with fail
  refine H.out.mono ?_
  rintro e w' ⟨rfl, rfl⟩
  go_wp2_with fail
  go_ret
  exact ⟨rfl, rfl⟩
theorem mark_nil (w : World) :
    Calls Tryz.prog 108 #[.slice none 0 0] w fun e w' => e = .returned (gc (0, 1)) ∧ w = w' := by
  have h := on_nil (0, 1) ok_i w
  simp only [fk_zero, fk_one] at h
  have H := Lib.hid h
  clear h
  unfold gc at *
  go_enter Tryz.func108, Tryz.ntmps108
  go_wp2_with fail
  refine H.out.mono ?_
  rintro e w' ⟨rfl, rfl⟩
  go_wp2_with fail
  go_ret
  exact ⟨rfl, rfl⟩
end Go.Proofs.YtaacdggjkfmehaaGreatDoor
namespace Go.Proofs.YtaacdggjkfmehaaGreatDoor
open Go.RowKit Go.Proofs.Flo Go.Proofs.Cpl
theorem ret_str {a b : ByteArray} (h : a = b) : Ending.returned (.string a) = .returned (.string b) := by rw [h]
theorem strN_append (a b : List Int) : strN a ++ strN b = strN (a ++ b) := by
  apply ByteArray.ext
  rw [ByteArray.data_append]
  simp [strN]
theorem strN_size (a : List Int) : (strN a).size = a.length := by simp [strN, ByteArray.size]
theorem zeros_ext (k : Nat) (hk : k ≤ 4) : (⟨#[48, 48, 48, 48]⟩ : ByteArray).extract k 4 = strN (List.replicate (4 - k) 48) := by
  rcases k with _|_|_|_|_|k
  all_goals first | (exfalso; omega) | (apply ByteArray.ext; rfl) | decide
set_option maxRecDepth 100000 in
set_option maxHeartbeats 400000 in
theorem gfour (n : Nat) (hn : n < 65536) (w : World) (ht : TzAt w) :
    Calls Tryz.prog 120 #[.float .f64 (fk 0 n)] w fun e w' => e = .returned (.string (strN (fourL n))) ∧ Below w.heap.size w w' := by
  have H := Lib.hid (fmt16 n hn w ht)
  clear ht
  have hc := fun w => run_convert_float_int (P := Tryz.prog) w 160 2 .f64 .i64 (fk 0 n) n (by kernel_rfl) Tryz.underlying2 (by
    unfold floatToIntVal
    rw [show FloatKind.f64.decode (fk 0 n) = Ieee.double.read (fk 0 n) from rfl, toInt_fk _ (by omega)]
    simp only
    rw [if_pos]
    exact ⟨by show (-9223372036854775808 : Int) ≤ n; omega, by show (n : Int) ≤ 9223372036854775807; omega⟩)
  have hl := hexL_le n
  have hz := strN_size (hexL n)
  have HP := Lib.hid (four_pad n hn)
  have HZ := Lib.hid hz
  have hs1 : (strN (hexL n)).size ≤ 4 := by omega
  have hs2 : ((strN (hexL n)).size : Int) ≤ 4 := by omega
  clear hz
  generalize hgs : strN (hexL n) = s at *
  have HS := Lib.hid hgs
  clear hgs
  go_enter Tryz.func120, Tryz.ntmps120
  go_wp2_with fail
  refine H.out.mono ?_
  rintro e w' ⟨rfl, hb⟩
  go_wp2_with fail
  go_ret
  refine ⟨ret_str ?_, hb⟩
  rw [zeros_ext _ hs1, ← HS.out, strN_append, HS.out, HZ.out, HP.out]
def textL (p : Int × Int) : List Int := fourL p.1.toNat ++ fourL p.2.toNat
theorem ok_nat {p : Int × Int} (h : Ok p) : ∃ a b : Nat, p = ((a : Int), (b : Int)) ∧ a ≤ 65520 ∧ b ≤ 65520 := by
  unfold Ok at h
  refine ⟨p.1.toNat, p.2.toNat, ?_, by omega, by omega⟩
  ext
  · show p.1 = (p.1.toNat : Int); omega
  · show p.2 = (p.2.toNat : Int); omega
set_option maxRecDepth 100000 in
set_option maxHeartbeats 400000 in
theorem gtext (p : Int × Int) (hp : Ok p) (w : World) (ht : TzAt w) :
    Calls Tryz.prog 107 #[.complex .f64 (fk 0 p.1) (fk 0 p.2)] w fun e w' => e = .returned (.string (strN (textL p))) ∧ Below w.heap.size w w' := by
  have M := Lib.hid (may_gc p hp)
  obtain ⟨a, b, rfl, ha, hb⟩ := ok_nat hp
  have hT : textL ((a : Int), (b : Int)) = fourL a ++ fourL b := rfl
  rw [hT]
  have A1 := Lib.hid (gfour a (by omega) w ht)
  have HT := Lib.hid ht
  clear ht hT hp
  have hm1 : ((strN (fourL a)).size : Int) = 4 := by rw [strN_size]; rfl
  have hm2 : ((strN (fourL b)).size : Int) = 4 := by rw [strN_size]; rfl
  go_enter Tryz.func107, Tryz.ntmps107
  go_wp2_with fail
  refine (M.out _).mono ?_
  rintro e w' ⟨rfl, rfl⟩
  go_wp2_with fail
  refine A1.out.mono ?_
  rintro e w1 ⟨rfl, hb1⟩
  go_wp2_with fail
  refine (gfour b (by omega) w1 (HT.out.below hb1)).mono ?_
  rintro e w2 ⟨rfl, hb2⟩
  go_wp2_with fail
  go_ret
  exact ⟨ret_str (strN_append _ _), hb1.trans (hb2.mono hb1.size)⟩
set_option maxRecDepth 100000 in
set_option maxHeartbeats 400000 in
theorem gtext_not (x y : Nat) (hx : (Ieee.double.read x).isNaN = false) (hy : (Ieee.double.read y).isNaN = false) (h : mayB x y = false) (w : World) :
    Calls Tryz.prog 107 #[.complex .f64 x y] w fun e w' => e = .returned (.string ⟨#[]⟩) ∧ w = w' := by
  have M2 := Lib.hid (may_not x y hx hy h)
  clear h
  go_enter Tryz.func107, Tryz.ntmps107
  go_wp2_with fail
  refine (M2.out _).mono ?_
  rintro e w' ⟨rfl, rfl⟩
  go_wp2_with fail
  go_ret
  exact ⟨rfl, rfl⟩
end Go.Proofs.YtaacdggjkfmehaaGreatDoor
namespace Go.Proofs.YtaacdggjkfmehaaGreatDoor
open Go.RowKit Go.Proofs.Flo Go.Proofs.Cpl
def ErrAt (w : World) : Prop := (∃ ev, w.cell? ⟨1, 0, none⟩ = some ev ∧ (ev = .nilIface ∨ ∃ te pe, ev = .iface te pe)) ∧ 1 < w.heap.size
theorem ErrAt.below {w w' : World} (h : ErrAt w) (hb : Below w.heap.size w w') : ErrAt w' := by
  obtain ⟨⟨ev, h1, h2⟩, h3⟩ := h
  exact ⟨⟨ev, by rw [hb.cell h3]; exact h1, h2⟩, Nat.lt_of_lt_of_le h3 hb.size⟩
def PuPost (o : Option Nat) (w : World) (e : Ending) (w' : World) : Prop :=
  ∃ v x, e = .returned (.tuple #[v, x]) ∧ (∀ n, o = some n → v = .int .u64 n ∧ x = .nilIface) ∧ (o = none → v = .int .u64 0 ∧ ∃ t p, x = .iface t p) ∧ Below w.heap.size w w'
set_option maxHeartbeats 400000 in
theorem puint16 (t : ByteArray) (h8 : t.size = 8) (w : World) (he : ErrAt w) :
    Calls Tryz.prog 115 #[.string t, .int .i64 16, .int .i64 32] w (PuPost (hexP 0 t.data.toList) w) := by
  have H := Lib.hid (ipuint16 t h8 w)
  have hb0 := Lib.bytesWorld_below w 5 t
  have he1 := he.below hb0
  clear he
  have hlim : t.size ≤ 281474976710656 := by omega
  have HB0 := Lib.hid hb0
  clear h8 hb0
  generalize Lib.bytesWorld w 5 t = W at *
  cases ho : hexP 0 t.data.toList with
  | some n =>
    rw [ho] at H
    clear he1
    go_enter Tryz.func115, Tryz.ntmps115
    go_wp2_with fail
    refine H.out.mono ?_
    rintro e w' ⟨rfl, rfl⟩
    unfold uintT
    go_wp2_with fail
    go_ret2
    exact ⟨_, _, rfl, (fun m hm => by cases hm; exact ⟨rfl, rfl⟩), (fun h => by cases h), HB0.out⟩
  | none =>
    rw [ho] at H
    obtain ⟨⟨ev, h1, h2⟩, h3⟩ := he1
    have HT := Lib.hid (Tryz.strconv_toError_syntax ⟨#[80, 97, 114, 115, 101, 85, 105, 110, 116]⟩ t 16 32 ev W hlim h1 h2)
    clear h1 h2 h3
    go_enter Tryz.func115, Tryz.ntmps115
    go_wp2_with fail
    refine H.out.mono ?_
    rintro e w' ⟨rfl, rfl⟩
    unfold uintT
    go_wp2_with fail
    refine HT.out.mono ?_
    rintro e w1 ⟨N, rfl, _, _, hb1⟩
    go_wp2_with fail
    go_ret2
    exact ⟨_, _, rfl, (fun m hm => by cases hm), (fun _ => ⟨rfl, _, _, rfl⟩), HB0.out.trans (hb1.mono HB0.out.size)⟩
theorem hexd_dg (d : Nat) (h : d < 16) : hexd (UInt8.ofNat (dg d).toNat) = some d := by
  rcases d with _|_|_|_|_|_|_|_|_|_|_|_|_|_|_|_|d
  all_goals first | (exfalso; omega) | rfl
theorem hexP_text (a b : Nat) (ha : a < 65536) (hb : b < 65536) : hexP 0 (strN (fourL a ++ fourL b)).data.toList = some (a * 65536 + b) := by
  have e : (strN (fourL a ++ fourL b)).data.toList = (fourL a ++ fourL b).map fun x => UInt8.ofNat x.toNat := rfl
  rw [e]
  unfold fourL
  simp only [List.cons_append, List.nil_append, List.map_cons, List.map_nil, hexP]
  rw [hexd_dg _ (by omega), hexd_dg _ (by omega), hexd_dg _ (by omega), hexd_dg _ (by omega), hexd_dg _ (by omega), hexd_dg _ (by omega), hexd_dg _ (by omega), hexd_dg _ (by omega)]
  simp only [Option.bind_some]
  congr 1
  omega
theorem hexd_lt {c : UInt8} {d : Nat} (h : hexd c = some d) : d < 16 := by
  unfold hexd at h
  split at h
  · cases h; omega
  · split at h
    · cases h; omega
    · split at h
      · cases h; omega
      · cases h
theorem hexP_lt (l : List UInt8) (acc n : Nat) (h : hexP acc l = some n) : n < (acc + 1) * 16 ^ l.length := by
  induction l generalizing acc with
  | nil => cases h; simp
  | cons c l ih =>
    unfold hexP at h
    cases hc : hexd c with
    | none => rw [hc] at h; cases h
    | some d =>
      rw [hc] at h
      have hd := hexd_lt hc
      have h1 := ih (acc * 16 + d) h
      have h2 : (acc * 16 + d + 1) * 16 ^ l.length ≤ ((acc + 1) * 16) * 16 ^ l.length := Nat.mul_le_mul_right _ (by omega)
      rw [List.length_cons, Nat.pow_succ, Nat.mul_comm (16 ^ l.length) 16, ← Nat.mul_assoc]
      omega
theorem text_size (p : Int × Int) : (strN (textL p)).size = 8 := by rw [strN_size]; rfl
theorem and16 (n : Nat) (h : n < 4294967296) : bits BinOp.and IntKind.u64 (n : Int) 65535 = ((n % 65536 : Nat) : Int) := by
  have e := bits_and_u64_nat n 65535 (by omega) (by omega)
  rw [show ((65535 : Nat) : Int) = 65535 from rfl] at e
  rw [e, show (65535 : Nat) = 2 ^ 16 - 1 from rfl, Nat.and_two_pow_sub_one_eq_mod]
def IsText (t : ByteArray) (p : Int × Int) : Prop := Ok p ∧ t = strN (textL p)
theorem IsText.one {t : ByteArray} {p q : Int × Int} (h1 : IsText t p) (h2 : IsText t q) : p = q := by
  obtain ⟨ho1, e1⟩ := h1
  obtain ⟨ho2, e2⟩ := h2
  obtain ⟨a, b, rfl, ha, hb⟩ := ok_nat ho1
  obtain ⟨c, d, rfl, hc, hd⟩ := ok_nat ho2
  have h1 := hexP_text a b (by omega) (by omega)
  have h2 := hexP_text c d (by omega) (by omega)
  have e : strN (fourL a ++ fourL b) = strN (fourL c ++ fourL d) := by rw [e1] at e2; exact e2
  rw [e, h2] at h1
  have h3 := Option.some.inj h1
  have : c = a ∧ d = b := by omega
  rw [this.1, this.2]
set_option maxHeartbeats 400000 in
theorem gread_yes (t : ByteArray) (p : Int × Int) (hp : IsText t p) (w : World) (ht : TzAt w) (he : ErrAt w) :
    Calls Tryz.prog 105 #[.string t] w fun e w' => e = .returned (.tuple #[.complex .f64 (fk 0 p.1) (fk 0 p.2), .bool true]) ∧ Below w.heap.size w w' := by
  obtain ⟨ho, htx⟩ := hp
  have h8 : t.size = 8 := by rw [htx]; exact text_size p
  have H := Lib.hid (puint16 t h8 w he)
  obtain ⟨a, b, rfl, ha, hb⟩ := ok_nat ho
  have hx : hexP 0 t.data.toList = some (a * 65536 + b) := by rw [htx]; exact hexP_text a b (by omega) (by omega)
  rw [hx] at H
  have HT := Lib.hid ht
  have G := Lib.hid (gtext ((a : Int), (b : Int)) ho)
  have HTX := Lib.hid htx
  clear hx ht he htx ho
  have h8' : (t.size : Int) = 8 := by omega
  have k1 : (a * 65536 + b) / 65536 = a := by omega
  have k2 : (a * 65536 + b) % 65536 = b := by omega
  have q1 := and16 (a * 65536 + b) (by omega)
  rw [k2] at q1
  have q0 : ((a * 65536 + b : Nat) : Int) / 65536 = (a : Int) := by omega
  have f1 : floatOfInt .f64 (a : Int) = fk 0 (a : Int) := floatOfInt_eq _ (by omega)
  have f2 : floatOfInt .f64 (b : Int) = fk 0 (b : Int) := floatOfInt_eq _ (by omega)
  generalize a * 65536 + b = n at *
  clear k1 k2
  go_enter Tryz.func105, Tryz.ntmps105
  go_wp2_with fail
  refine H.out.mono ?_
  rintro e w1 ⟨v, x, rfl, hs, _, hb1⟩
  obtain ⟨rfl, rfl⟩ := hs n rfl
  go_wp2_with fail
  refine (G.out w1 (HT.out.below hb1)).mono ?_
  rintro e w2 ⟨rfl, hb2⟩
  rw [← HTX.out]
  go_wp2_with fail
  go_ret2
  exact ⟨rfl, hb1.trans (hb2.mono hb1.size)⟩
theorem not_toList {a b : ByteArray} (h : a ≠ b) : (a.toList == b.toList) = false := by
  rw [beq_eq_false_iff_ne]
  intro e
  rw [ByteArray.toList_eq, ByteArray.toList_eq] at e
  exact h (ByteArray.ext (Array.toList_inj.1 e))
set_option maxHeartbeats 400000 in
theorem gread_no (t : ByteArray) (hno : ∀ p, ¬ IsText t p) (w : World) (ht : TzAt w) (he : ErrAt w) :
    Calls Tryz.prog 105 #[.string t] w fun e w' => e = .returned (.tuple #[.complex .f64 0 0, .bool false]) ∧ Below w.heap.size w w' := by
  by_cases h8 : t.size = 8
  · have H := Lib.hid (puint16 t h8 w he)
    have HT := Lib.hid ht
    have h8' : (t.size : Int) = 8 := by omega
    cases ho : hexP 0 t.data.toList with
    | none =>
      rw [ho] at H
      clear ho ht he hno
      go_enter Tryz.func105, Tryz.ntmps105
      go_wp2_with fail
      refine H.out.mono ?_
      rintro e w1 ⟨v, x, rfl, _, hs, hb1⟩
      obtain ⟨rfl, tt, pp, rfl⟩ := hs rfl
      go_wp2_with fail
      go_ret2
      exact ⟨rfl, hb1⟩
    | some n =>
      rw [ho] at H
      have hn := hexP_lt _ _ _ ho
      rw [show t.data.toList.length = 8 from h8] at hn
      have hn' : n < 4294967296 := by omega
      obtain ⟨a, ha⟩ : ∃ a, n / 65536 = a := ⟨_, rfl⟩
      obtain ⟨b, hb⟩ : ∃ b, n % 65536 = b := ⟨_, rfl⟩
      have q1 := and16 n hn'
      rw [hb] at q1
      have q0 : (n : Int) / 65536 = (a : Int) := by omega
      have f1 : floatOfInt .f64 (a : Int) = fk 0 (a : Int) := floatOfInt_eq _ (by omega)
      have f2 : floatOfInt .f64 (b : Int) = fk 0 (b : Int) := floatOfInt_eq _ (by omega)
      have ha' : a < 65536 := by omega
      have hb' : b < 65536 := by omega
      by_cases hok : Ok ((a : Int), (b : Int))
      · have hne : strN (textL ((a : Int), (b : Int))) ≠ t := fun h => hno _ ⟨hok, h.symm⟩
        have G := Lib.hid (gtext ((a : Int), (b : Int)) hok)
        have HN := not_toList hne
        clear hno ht he ho ha hb hn hne hok
        generalize strN (textL ((a : Int), (b : Int))) = s at *
        go_enter Tryz.func105, Tryz.ntmps105
        go_wp2_with fail
        refine H.out.mono ?_
        rintro e w1 ⟨v, x, rfl, hs, _, hb1⟩
        obtain ⟨rfl, rfl⟩ := hs n rfl
        go_wp2_with fail
        refine (G.out w1 (HT.out.below hb1)).mono ?_
        rintro e w2 ⟨rfl, hb2⟩
        go_wp2_with fail
        go_ret2
        exact ⟨rfl, hb1.trans (hb2.mono hb1.size)⟩
      · have va := VW_fk 0 (a : Int) (by omega) (by omega)
        have vb := VW_fk 0 (b : Int) (by omega) (by omega)
        have hm : mayB (fk 0 (a : Int)) (fk 0 (b : Int)) = false := by
          rw [mayB_int _ _ (by omega) (by omega)]
          exact decide_eq_false hok
        have G := Lib.hid (gtext_not _ _ va.nan vb.nan hm)
        have hne : (⟨#[]⟩ : ByteArray) ≠ t := fun h => by rw [← h] at h8; cases h8
        have HN := not_toList hne
        rw [show (⟨#[]⟩ : ByteArray).toList = [] from by rw [ByteArray.toList_eq]] at HN
        clear hno ht he ho ha hb hn hok va vb hm hne
        go_enter Tryz.func105, Tryz.ntmps105
        go_wp2_with fail
        refine H.out.mono ?_
        rintro e w1 ⟨v, x, rfl, hs, _, hb1⟩
        obtain ⟨rfl, rfl⟩ := hs n rfl
        go_wp2_with fail
        refine (G.out w1).mono ?_
        rintro e w2 ⟨rfl, rfl⟩
        go_wp2_with fail
        go_ret2
        exact ⟨rfl, hb1⟩
  · have h8' : ((t.size : Int) == 8) = false := by rw [beq_eq_false_iff_ne]; omega
    clear ht he hno
    go_enter Tryz.func105, Tryz.ntmps105
    go_wp2_with fail
    go_ret2
    exact ⟨rfl, Below.refl _ _⟩
end Go.Proofs.YtaacdggjkfmehaaGreatDoor
namespace Go.Proofs.YtaacdggjkfmehaaGreatDoor
open Go.RowKit Go.Proofs.Flo Go.Proofs.Cpl
def hexl (c : UInt8) : Option Nat :=
  if 48 ≤ c.toNat ∧ c.toNat ≤ 57 then some (c.toNat - 48) else if 97 ≤ c.toNat ∧ c.toNat ≤ 102 then some (c.toNat - 87) else none
def rr (k a b : Nat) : List UInt8 → Option (Nat × Nat)
  | [] => some (a, b)
  | c :: l => (hexl c).bind fun d => if k < 4 then rr (k + 1) (a * 16 + d) b l else rr (k + 1) a (b * 16 + d) l
theorem hexl_dg (d : Nat) (h : d < 16) : hexl (UInt8.ofNat (dg d).toNat) = some d := by
  rcases d with _|_|_|_|_|_|_|_|_|_|_|_|_|_|_|_|d
  all_goals first | (exfalso; omega) | rfl
theorem hexl_inv {c : UInt8} {d : Nat} (h : hexl c = some d) : d < 16 ∧ c = UInt8.ofNat (dg d).toNat := by
  unfold hexl at h
  split at h
  · cases h
    refine ⟨by omega, ?_⟩
    apply UInt8.toNat_inj.1
    unfold dg
    rw [if_pos (by omega)]
    rw [UInt8.toNat_ofNat']
    omega
  · split at h
    · cases h
      refine ⟨by omega, ?_⟩
      apply UInt8.toNat_inj.1
      unfold dg
      rw [if_neg (by omega)]
      rw [UInt8.toNat_ofNat']
      omega
    · cases h
theorem rr_text (a b : Nat) (ha : a < 65536) (hb : b < 65536) : rr 0 0 0 (strN (fourL a ++ fourL b)).data.toList = some (a, b) := by
  have e : (strN (fourL a ++ fourL b)).data.toList = (fourL a ++ fourL b).map fun x => UInt8.ofNat x.toNat := rfl
  rw [e]
  unfold fourL
  simp only [List.cons_append, List.nil_append, List.map_cons, List.map_nil, rr]
  rw [hexl_dg _ (by omega), hexl_dg _ (by omega), hexl_dg _ (by omega), hexl_dg _ (by omega), hexl_dg _ (by omega), hexl_dg _ (by omega), hexl_dg _ (by omega), hexl_dg _ (by omega)]
  simp
  omega
theorem rr_cons {k a b : Nat} {c : UInt8} {l : List UInt8} {r : Nat × Nat} (h : rr k a b (c :: l) = some r) : ∃ d, d < 16 ∧ c = UInt8.ofNat (dg d).toNat ∧ (if k < 4 then rr (k + 1) (a * 16 + d) b l else rr (k + 1) a (b * 16 + d) l) = some r := by
  unfold rr at h
  cases hc : hexl c with
  | none => rw [hc] at h; cases h
  | some d =>
    rw [hc] at h
    obtain ⟨h1, h2⟩ := hexl_inv hc
    exact ⟨d, h1, h2, h⟩
theorem rr_inv {t : ByteArray} (h8 : t.size = 8) {a b : Nat} (h : rr 0 0 0 t.data.toList = some (a, b)) : a < 65536 ∧ b < 65536 ∧ t = strN (fourL a ++ fourL b) := by
  have hl : t.data.toList.length = 8 := h8
  have ht : t = ⟨t.data.toList.toArray⟩ := by cases t; simp
  generalize t.data.toList = l at *
  obtain ⟨c0, l, rfl⟩ : ∃ c l', l = c :: l' := by cases l with | nil => cases hl | cons c l => exact ⟨c, l, rfl⟩
  obtain ⟨c1, l, rfl⟩ : ∃ c l', l = c :: l' := by cases l with | nil => cases hl | cons c l => exact ⟨c, l, rfl⟩
  obtain ⟨c2, l, rfl⟩ : ∃ c l', l = c :: l' := by cases l with | nil => cases hl | cons c l => exact ⟨c, l, rfl⟩
  obtain ⟨c3, l, rfl⟩ : ∃ c l', l = c :: l' := by cases l with | nil => cases hl | cons c l => exact ⟨c, l, rfl⟩
  obtain ⟨c4, l, rfl⟩ : ∃ c l', l = c :: l' := by cases l with | nil => cases hl | cons c l => exact ⟨c, l, rfl⟩
  obtain ⟨c5, l, rfl⟩ : ∃ c l', l = c :: l' := by cases l with | nil => cases hl | cons c l => exact ⟨c, l, rfl⟩
  obtain ⟨c6, l, rfl⟩ : ∃ c l', l = c :: l' := by cases l with | nil => cases hl | cons c l => exact ⟨c, l, rfl⟩
  obtain ⟨c7, l, rfl⟩ : ∃ c l', l = c :: l' := by cases l with | nil => cases hl | cons c l => exact ⟨c, l, rfl⟩
  obtain rfl : l = [] := by cases l with | nil => rfl | cons c l => simp at hl
  obtain ⟨d0, i0, rfl, g0⟩ := rr_cons h
  rw [if_pos (by decide)] at g0
  obtain ⟨d1, i1, rfl, g1⟩ := rr_cons g0
  rw [if_pos (by decide)] at g1
  obtain ⟨d2, i2, rfl, g2⟩ := rr_cons g1
  rw [if_pos (by decide)] at g2
  obtain ⟨d3, i3, rfl, g3⟩ := rr_cons g2
  rw [if_pos (by decide)] at g3
  obtain ⟨d4, i4, rfl, g4⟩ := rr_cons g3
  rw [if_neg (by decide)] at g4
  obtain ⟨d5, i5, rfl, g5⟩ := rr_cons g4
  rw [if_neg (by decide)] at g5
  obtain ⟨d6, i6, rfl, g6⟩ := rr_cons g5
  rw [if_neg (by decide)] at g6
  obtain ⟨d7, i7, rfl, g7⟩ := rr_cons g6
  rw [if_neg (by decide)] at g7
  have hab := Option.some.inj g7
  have ha : (((0 * 16 + d0) * 16 + d1) * 16 + d2) * 16 + d3 = a := (Prod.mk.inj hab).1
  have hb : (((0 * 16 + d4) * 16 + d5) * 16 + d6) * 16 + d7 = b := (Prod.mk.inj hab).2
  refine ⟨by omega, by omega, ?_⟩
  rw [ht]
  have e0 : a / 4096 % 16 = d0 := by omega
  have e1 : a / 256 % 16 = d1 := by omega
  have e2 : a / 16 % 16 = d2 := by omega
  have e3 : a % 16 = d3 := by omega
  have e4 : b / 4096 % 16 = d4 := by omega
  have e5 : b / 256 % 16 = d5 := by omega
  have e6 : b / 16 % 16 = d6 := by omega
  have e7 : b % 16 = d7 := by omega
  unfold fourL
  rw [e0, e1, e2, e3, e4, e5, e6, e7]
  rfl
theorem rr_is {t : ByteArray} (h8 : t.size = 8) {a b : Nat} (h : rr 0 0 0 t.data.toList = some (a, b)) (ha : a < 65521) (hb : b < 65521) : IsText t ((a : Int), (b : Int)) := by
  obtain ⟨_, _, e⟩ := rr_inv h8 h
  exact ⟨⟨⟨by omega, by omega⟩, ⟨by omega, by omega⟩⟩, e⟩
theorem is_rr {t : ByteArray} {p : Int × Int} (h : IsText t p) : t.size = 8 ∧ ∃ a b : Nat, p = ((a : Int), (b : Int)) ∧ a < 65521 ∧ b < 65521 ∧ rr 0 0 0 t.data.toList = some (a, b) := by
  obtain ⟨ho, rfl⟩ := h
  obtain ⟨a, b, rfl, ha, hb⟩ := ok_nat ho
  exact ⟨text_size _, a, b, rfl, by omega, by omega, rr_text a b (by omega) (by omega)⟩
end Go.Proofs.YtaacdggjkfmehaaGreatDoor
namespace Go.Proofs.YtaacdggjkfmehaaGreatDoor
open Go.RowKit Go.Proofs.Flo Go.Proofs.Cpl
def RngAt (w : World) : Prop := (∃ ev, w.cell? ⟨2, 0, none⟩ = some ev ∧ (ev = .nilIface ∨ ∃ te pe, ev = .iface te pe)) ∧ 2 < w.heap.size
theorem RngAt.below {w w' : World} (h : RngAt w) (hb : Below w.heap.size w w') : RngAt w' := by
  obtain ⟨⟨ev, h1, h2⟩, h3⟩ := h
  exact ⟨⟨ev, by rw [hb.cell h3]; exact h1, h2⟩, Nat.lt_of_lt_of_le h3 hb.size⟩
def PowAt (w : World) : Prop := Lib.TabIs Tryz.prog w "internal/strconv.uint64pow10" .u64 Lib.pow10Tab
theorem PowAt.below {w w' : World} (h : PowAt w) (hb : Below w.heap.size w w') : PowAt w' := Lib.tabBelow_of_tabIs h w' hb
def LibAt (w : World) : Prop := TzAt w ∧ ErrAt w ∧ RngAt w ∧ PowAt w
theorem LibAt.below {w w' : World} (h : LibAt w) (hb : Below w.heap.size w w') : LibAt w' := ⟨h.1.below hb, h.2.1.below hb, h.2.2.1.below hb, h.2.2.2.below hb⟩
def BegunTrue : Prop := ∀ w, LibAt w → Calls Tryz.prog 122 #[] w fun e w' => e = .returned (.bool true) ∧ Below w.heap.size w w'
end Go.Proofs.YtaacdggjkfmehaaGreatDoor
namespace Go.Proofs.YtaacdggjkfmehaaGreatDoor
open Go.RowKit Go.Proofs.Flo Go.Proofs.Cpl Go.Sort
theorem conv_str (s : ByteArray) (w : World) : (convert 9 85 (.string s)).run Tryz.prog w = .ok (.slice (some ⟨w.heap.size, 0, none⟩) s.size (grownCap w s.size 0 5)) (Lib.bytesWorld w 5 s) :=
  Lib.run_convert_string_bytes (P := Tryz.prog) w 9 85 5 s (u := .string) Tryz.underlying9 Tryz.underlying85 Tryz.underlying5
theorem bytesAt_str (w : World) (e : TypeId) (s : ByteArray) : BytesAt (Lib.bytesWorld w e s) w.heap.size 0 s.data.toList := by
  intro i h
  have hc := Lib.bytesWorld_cell w e s i h
  rw [Nat.zero_add, hc]
  simp [List.getD, List.getElem?_eq_getElem h]
theorem mark_str (s : ByteArray) (b n cap : Nat) (G : Int × Int) (hG : gon (0, 1) s.data.toList = G) (hn : s.size = n) (hs : s.size ≤ maxLen) (w : World) (h : BytesAt w b 0 s.data.toList) :
    Calls Tryz.prog 108 #[.slice (some ⟨b, 0, none⟩) n cap] w fun e w' => e = .returned (.complex .f64 (fk 0 G.1) (fk 0 G.2)) ∧ w = w' := by
  subst hn hG
  exact mark_gc b 0 cap s.data.toList hs w h
theorem append_toList (a b : ByteArray) : (a ++ b).data.toList = a.data.toList ++ b.data.toList := by
  rw [ByteArray.data_append, Array.toList_append]
theorem BytesAt.set {w : World} {b : Nat} {l : List UInt8} (h : BytesAt w b 0 l) (k : Nat) (hk : k < l.length) (c : UInt8) : BytesAt (w.setCell ⟨b, k, none⟩ (.int .u8 (c.toNat : Int))) b 0 (l.set k c) := by
  intro i hi
  rw [List.length_set] at hi
  have hc := h i hi
  have hck := h k hk
  rw [Nat.zero_add] at hc hck ⊢
  by_cases e : i = k
  · subst e
    rw [List.getElem_set_self]
    go_simp
  · rw [List.getElem_set_ne (fun g => e g.symm)]
    go_simp
end Go.Proofs.YtaacdggjkfmehaaGreatDoor
namespace Go.Proofs.YtaacdggjkfmehaaGreatDoor
open Go.RowKit
theorem mayR_ns {e : Int} {l : List Int} {nw : Int} (h : mayR ⟨e, l, nw⟩ = true) : mayNs l = true ∧ mayW l nw = true := by
  unfold mayR at h
  dsimp only at h
  rw [Bool.and_eq_true, Bool.and_eq_true] at h
  exact h.2
theorem mayNs_good {l : List Int} (h : mayNs l = true) {k : Nat} (hk : k < l.length) : goodK l k = true := by
  unfold mayNs at h
  rw [Bool.and_eq_true, List.all_eq_true] at h
  exact h.2 k (List.mem_range.2 hk)
theorem mayNs_at {l : List Int} (h : mayNs l = true) {k : Nat} {x : Int} (hx : l[k]? = some x) : 1 ≤ x ∧ x ≤ 5 ∧ hasI (l.take k) x = false ∧ ixI l x = (k : Int) := by
  have hk : k < l.length := (List.getElem?_eq_some_iff.1 hx).1
  have hg := mayNs_good h hk
  rw [goodK_at hx, Bool.and_eq_true] at hg
  have h1 := of_decide_eq_true hg.1
  have h2 : hasI (l.take k) x = false := by simpa using hg.2
  exact ⟨h1.1, h1.2, h2, ix_here hx h2⟩
theorem chkR_len (r : Ro) : (chkR r).1.l.length ≤ r.l.length := by
  unfold chkR
  split
  · exact Nat.le_refl _
  · exact Nat.zero_le _
theorem addR_len (r : Ro) (n : Int) : (addR r n).1.l.length ≤ r.l.length + 1 := by
  unfold addR
  split
  · exact Nat.le_trans (chkR_len _) (by simp)
  · exact Nat.zero_le _
theorem dropR_len (r : Ro) (n : Int) : (dropR r n).1.l.length ≤ r.l.length := by
  unfold dropR
  split
  · exact Nat.zero_le _
  · split
    · exact Nat.le_trans (chkR_len _) (by simp; omega)
    · exact Nat.zero_le _
end Go.Proofs.YtaacdggjkfmehaaGreatDoor
namespace Go.Proofs.YtaacdggjkfmehaaGreatDoor
open Go.RowKit
theorem has_mem (l : List Int) (x : Int) : hasI l x = true ↔ x ∈ l := by
  unfold hasI
  rw [decide_eq_true_eq]
  rcases ixI_cases l x with ⟨h1, h2⟩ | ⟨k, hk, h1, h2⟩
  · constructor
    · intro h
      omega
    · intro h
      exfalso
      unfold ixN at h2
      rw [List.findIdx?_eq_none_iff] at h2
      have := h2 x h
      simp at this
  · constructor
    · intro _
      unfold ixN at h2
      obtain ⟨h3, h4, _⟩ := List.findIdx?_eq_some_iff_getElem.1 h2
      have : l[k] = x := by simpa using h4
      rw [← this]
      exact List.getElem_mem h3
    · intro _
      omega
theorem has_mem' (l : List Int) (x : Int) : hasI l x = false ↔ x ∉ l := by
  rw [← has_mem]
  cases hasI l x <;> simp
theorem mayNs_iff (l : List Int) : mayNs l = true ↔ (1 ≤ l.length ∧ l.length ≤ 5) ∧ (∀ x ∈ l, 1 ≤ x ∧ x ≤ 5) ∧ l.Pairwise (· ≠ ·) := by
  constructor
  · intro h
    have hl : 1 ≤ l.length ∧ l.length ≤ 5 := by
      unfold mayNs at h
      rw [Bool.and_eq_true] at h
      exact of_decide_eq_true h.1
    refine ⟨hl, fun x hx => ?_, ?_⟩
    · obtain ⟨k, hk, rfl⟩ := List.getElem_of_mem hx
      have := mayNs_at h (List.getElem?_eq_getElem hk)
      exact ⟨this.1, this.2.1⟩
    · rw [List.pairwise_iff_getElem]
      intro i j hi hj hij e
      have := (mayNs_at h (List.getElem?_eq_getElem hj)).2.2.1
      rw [has_mem'] at this
      refine this ?_
      rw [← e]
      exact List.mem_of_getElem? (i := i) (by rw [List.getElem?_take, if_pos hij]; exact List.getElem?_eq_getElem hi)
  · rintro ⟨hl, hm, hp⟩
    refine mayNs_yes hl (fun k hk => ?_)
    rw [goodK_at (List.getElem?_eq_getElem hk), Bool.and_eq_true]
    refine ⟨decide_eq_true (hm _ (List.getElem_mem hk)), ?_⟩
    have : hasI (l.take k) l[k] = false := by
      rw [has_mem']
      intro hx
      obtain ⟨j, hj, e⟩ := List.getElem_of_mem hx
      rw [List.length_take] at hj
      rw [List.getElem_take] at e
      exact (List.pairwise_iff_getElem.1 hp) j k (by omega) hk (by omega) e
    rw [this]
    rfl
theorem mayR_of {e : Int} {l : List Int} {nw : Int} (h1 : 1 ≤ e ∧ e ≤ 1099511627776) (h2 : mayNs l = true) (h3 : mayW l nw = true) : mayR ⟨e, l, nw⟩ = true := by
  unfold mayR
  dsimp only
  rw [decide_eq_true h1, h2, h3]
  rfl
theorem snoc_mayNs {l : List Int} {n : Int} (h : mayNs (l ++ [n]) = true) : (1 ≤ n ∧ n ≤ 5) ∧ hasI l n = false := by
  rw [mayNs_iff] at h
  obtain ⟨_, hm, hp⟩ := h
  refine ⟨hm n (by simp), ?_⟩
  rw [has_mem']
  intro hx
  rw [List.pairwise_append] at hp
  exact hp.2.2 n hx n (by simp) rfl
end Go.Proofs.YtaacdggjkfmehaaGreatDoor
namespace Go.Proofs.YtaacdggjkfmehaaGreatDoor
open Go.RowKit
theorem mayR_learn {r : Ro} (h : mayR r = true) : mayR ⟨r.ep, r.l, 0⟩ = true := by
  obtain ⟨e, l, nw⟩ := r
  have hlen := mayR_len h
  show mayR ⟨e, l, 0⟩ = true
  exact mayR_of (by omega) (mayR_ns h).1 (by unfold mayW; simp)
end Go.Proofs.YtaacdggjkfmehaaGreatDoor
