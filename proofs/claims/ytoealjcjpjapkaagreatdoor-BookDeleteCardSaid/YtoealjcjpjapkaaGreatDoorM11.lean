/-
 Contracts of the program, and what they rest on.
-/
import Derived.Test.YtoealjcjpjapkaaGreatDoorM03
import Derived.WalkKit
import Derived.WalkSpells
import Derived.WalkLawsBesides
import Derived.Lib.Hide
import Derived.Lib.Strings
import Derived.Lib.Bytealg
import Derived.Test.YtoealjcjpjapkaaGreatDoorShelf
import Derived.Test.YtoealjcjpjapkaaGreatDoorM08
import Derived.Test.YtoealjcjpjapkaaGreatDoorM10
import Derived.Test.YtoealjcjpjapkaaGreatDoorM04
set_option maxRecDepth 100000
set_option maxHeartbeats 16000000
namespace Go.Proofs.YtoealjcjpjapkaaGreatDoor
open Go.RowKit
def keyC (c : UInt8) : Bool := (97 ≤ c.toNat && c.toNat ≤ 122) || (48 ≤ c.toNat && c.toNat ≤ 57) || c.toNat == 46 || c.toNat == 45 || c.toNat == 95 || c.toNat == 47
def keyB (s : ByteArray) : Bool := decide (s.size ≠ 0) && decide (s.size ≤ 40) && s.data.toList.all keyC
def homeP (r : Int) : Int := if 1 ≤ r.tdiv 4294967296 ∧ r.tdiv 4294967296 ≤ 5 ∧ r.tmod 4294967296 ≠ 0 then r.tdiv 4294967296 else 0
def makeP (node n : Int) : Int := if 1 ≤ node ∧ node ≤ 5 ∧ 1 ≤ n ∧ n < 4294967296 then node * 4294967296 + n else 0
structure De where
 kind : Int
 key : ByteArray
 body : ByteArray
 ver : Int
 cond : Int
 tag : ByteArray
 req : Int
 low : Int
def De.zero : De := ⟨0, ⟨#[]⟩, ⟨#[]⟩, 0, 0, ⟨#[]⟩, 0, 0⟩
def condD (c : Int) (t : ByteArray) : Prop := ((c = 0 ∨ c = 1) ∧ t.size = 0) ∨ (c = 2 ∧ ∃ p, IsText t p)
def pureD (d : De) : Prop :=
 (d.kind = 1 ∧ d.body.size ≤ 300 ∧ d.ver = 0 ∧ condD d.cond d.tag) ∨ (d.kind = 2 ∧ d.body.size = 0 ∧ d.ver = 0 ∧ d.cond = 0 ∧ d.tag.size = 0) ∨
  (d.kind = 3 ∧ d.body.size = 0 ∧ (1 ≤ d.ver ∧ d.ver ≤ 1099511627776) ∧ d.cond = 0 ∧ d.tag.size = 0)
def mayD (d : De) : Prop := keyB d.key = true ∧ homeP d.req ≠ 0 ∧ 0 ≤ d.low ∧ d.low ≤ d.req ∧ pureD d
def De.wf (d : De) : Prop := (-9223372036854775808 ≤ d.kind ∧ d.kind ≤ 9223372036854775807) ∧ (-9223372036854775808 ≤ d.ver ∧ d.ver ≤ 9223372036854775807) ∧ (-9223372036854775808 ≤ d.cond ∧ d.cond ≤ 9223372036854775807) ∧ (-9223372036854775808 ≤ d.req ∧ d.req ≤ 9223372036854775807) ∧ (-9223372036854775808 ≤ d.low ∧ d.low ≤ 9223372036854775807)
theorem home_p (r : Int) (h0 : -9223372036854775808 ≤ r) (h1 : r ≤ 9223372036854775807) (w : World) :
  Calls Tryz.prog 14 #[.int .i64 r] w fun e w' => e = .returned (.int .i64 (homeP r)) ∧ w = w' := by
 unfold homeP
 by_cases a : 1 ≤ r.tdiv 4294967296 ∧ r.tdiv 4294967296 ≤ 5 ∧ r.tmod 4294967296 ≠ 0
 ·rw [if_pos a]
  obtain ⟨a1, a2, a3⟩ := a
  have b1 : ¬ r.tdiv 4294967296 < 1 := by omega
  have b2 : ¬ 5 < r.tdiv 4294967296 := by omega
  have b3 : (r.tmod 4294967296 == 0) = false := by rw [beq_eq_false_iff_ne]; exact a3
  clear a1 a2 a3
  go_enter Tryz.func14, Tryz.ntmps14
  go_wp2_with fail
  go_ret
  exact ⟨rfl, rfl⟩
 ·rw [if_neg a]
  go_enter Tryz.func14, Tryz.ntmps14
  by_cases b1 : r.tdiv 4294967296 < 1
  ·clear a
   go_wp2_with fail
   go_ret
   exact ⟨rfl, rfl⟩
  by_cases b2 : 5 < r.tdiv 4294967296
  ·clear a
   go_wp2_with fail
   go_ret
   exact ⟨rfl, rfl⟩
  have b4 : r.tmod 4294967296 = 0 := by
   by_cases e : r.tmod 4294967296 = 0
   ·exact e
   ·exact absurd ⟨by omega, by omega, e⟩ a
  have b3 : (r.tmod 4294967296 == 0) = true := by rw [beq_iff_eq]; exact b4
  clear a b4
  go_wp2_with fail
  go_ret
  exact ⟨rfl, rfl⟩
theorem make_p (node n : Int) (h0 : -9223372036854775808 ≤ node) (h1 : node ≤ 9223372036854775807) (h2 : -9223372036854775808 ≤ n) (h3 : n ≤ 9223372036854775807) (w : World) :
  Calls Tryz.prog 16 #[.int .i64 node, .int .i64 n] w fun e w' => e = .returned (.int .i64 (makeP node n)) ∧ w = w' := by
 unfold makeP
 by_cases a : 1 ≤ node ∧ node ≤ 5 ∧ 1 ≤ n ∧ n < 4294967296
 ·rw [if_pos a]
  obtain ⟨a1, a2, a3, a4⟩ := a
  have e1 : IntKind.i64.wrap (node * 4294967296) = node * 4294967296 := IntWalk.i64_in _ (by omega)
  have e2 : IntKind.i64.wrap (node * 4294967296 + n) = node * 4294967296 + n := IntWalk.i64_in _ (by omega)
  have b1 : ¬ node < 1 := by omega
  have b2 : ¬ 5 < node := by omega
  have b3 : ¬ n < 1 := by omega
  have b4 : ¬ 4294967296 ≤ n := by omega
  clear a1 a2 a3 a4
  go_enter Tryz.func16, Tryz.ntmps16
  go_wp2_with fail
  go_ret
  exact ⟨rfl, rfl⟩
 ·rw [if_neg a]
  go_enter Tryz.func16, Tryz.ntmps16
  by_cases b1 : node < 1
  ·clear a
   go_wp2_with fail
   go_ret
   exact ⟨rfl, rfl⟩
  by_cases b2 : 5 < node
  ·clear a
   go_wp2_with fail
   go_ret
   exact ⟨rfl, rfl⟩
  by_cases b3 : n < 1
  ·clear a
   go_wp2_with fail
   go_ret
   exact ⟨rfl, rfl⟩
  have b4 : 4294967296 ≤ n := by omega
  clear a
  go_wp2_with fail
  go_ret
  exact ⟨rfl, rfl⟩
def lettersL : List UInt8 := [97, 98, 99, 100, 101, 102, 103, 104, 105, 106, 107, 108, 109, 110, 111, 112, 113, 114, 115, 116, 117, 118, 119, 120, 121, 122, 48, 49, 50, 51, 52, 53, 54, 55, 56, 57, 46, 45, 95, 47]
theorem key_letters : ∀ c : Fin 256, (Lib.indexByte lettersL (UInt8.ofNat c.val) < 0) ↔ keyC (UInt8.ofNat c.val) = false := by decide +kernel
theorem letters_at (c : UInt8) : (Lib.indexByte lettersL ((c.toNat : Int)).toNat.toUInt8 < 0) ↔ keyC c = false := by
 have h := key_letters ⟨c.toNat, c.toNat_lt⟩
 rw [show (UInt8.ofNat c.toNat) = c from UInt8.ofNat_toNat] at h
 rw [show ((c.toNat : Int)).toNat.toUInt8 = c from by rw [Int.toNat_natCast]; exact UInt8.ofNat_toNat]
 exact h
theorem key_p (s : ByteArray) (w : World) :
  Calls Tryz.prog 12 #[.string s] w fun e w' => e = .returned (.bool (keyB s)) ∧ Below w.heap.size w w' := by
 obtain ⟨R, hR⟩ : ∃ R, keyB s = R := ⟨_, rfl⟩
 rw [hR]
 unfold keyB at hR
 have v1 : (convert 9 50 (.string s)).run Tryz.prog w = .ok (.slice (some ⟨w.heap.size, 0, none⟩) s.size (grownCap w s.size 0 5)) (Lib.bytesWorld w 5 s) :=
  Lib.run_convert_string_bytes (P := Tryz.prog) w 9 50 5 s (u := .string) Tryz.underlying9 Tryz.underlying50 Tryz.underlying5
 by_cases h0 : s.size = 0
 ·obtain rfl : R = false := by rw [← hR, h0]; rfl
  obtain rfl : s = ⟨#[]⟩ := ByteArray.ext (Array.eq_empty_of_size_eq_zero h0)
  clear hR h0 v1
  go_enter Tryz.func12, Tryz.ntmps12
  go_wp2_with fail
  go_ret
  exact ⟨rfl, Below.refl _ _⟩
 have hse : s.toList.isEmpty = false := by
  rw [ByteArray.toList_eq]
  cases h : s.data.toList with
  | nil => exact absurd (show s.data.toList.length = 0 by rw [h]; rfl) h0
  | cons => rfl
 by_cases h1 : 40 < s.size
 ·obtain rfl : R = false := by rw [← hR, decide_eq_false (show ¬ s.size ≤ 40 by omega)]; simp
  have h2 : (40 : Int) < (s.size : Int) := by omega
  clear hR v1
  go_enter Tryz.func12, Tryz.ntmps12
  go_wp2_with fail
  go_ret
  exact ⟨rfl, Below.refl _ _⟩
 rw [decide_eq_true h0, decide_eq_true (show s.size ≤ 40 by omega)] at hR
 simp only [Bool.and_true, Bool.true_and] at hR
 have HR := Lib.hid hR
 have h2 : ¬ (40 : Int) < (s.size : Int) := by omega
 have hs40 : s.size ≤ 40 := by omega
 clear hR h1
 have hbw : Below w.heap.size w (Lib.bytesWorld w 5 s) := Lib.bytesWorld_below w 5 s
 have HB := Lib.hid hbw
 have HC : Hid (∀ i (h : i < s.data.toList.length), (Lib.bytesWorld w 5 s).cell? ⟨w.heap.size, i, none⟩ = some (.int .u8 ((s.data.toList[i]'h).toNat : Int))) := Lib.hid (fun i h => by
  have hc := Lib.bytesWorld_cell w 5 s i h
  rw [hc]
  simp [List.getD, List.getElem?_eq_getElem h])
 clear hbw
 go_enter Tryz.func12, Tryz.ntmps12
 go_wp2_with fail
 go_loopw [15] (fun iv wr => ∃ i : Nat, iv = .int .i64 i ∧ i ≤ s.size ∧ Hid (∀ j (h : j < s.data.toList.length), j < i → keyC (s.data.toList[j]'h) = true) ∧ wr = Lib.bytesWorld w 5 s) (fun iv _ => s.size - (intOf iv).toNat)
 case atStart => exact ⟨0, rfl, Nat.zero_le _, Lib.hid (fun j _ h => absurd h (Nat.not_lt_zero _)), rfl⟩
 case round =>
  obtain ⟨i, rfl, his, HI, rfl⟩ := hrel
  by_cases hi : i < s.size
  ·have hlt : (i : Int) < (s.size : Int) := by omega
   have hil : i < s.data.toList.length := hi
   have hc := HC.out i hil
   obtain ⟨c, hcc⟩ : ∃ c, s.data.toList[i]'hil = c := ⟨_, rfl⟩
   rw [hcc] at hc
   have HCC := Lib.hid hcc
   clear hcc
   have hk := letters_at c
   cases hkc : keyC c with
   | false =>
    have hneg := hk.2 hkc
    obtain rfl : R = false := by
     rw [← HR.out]
     rw [List.all_eq_false]
     exact ⟨c, by rw [← HCC.out]; exact List.getElem_mem hil, by rw [hkc]; simp⟩
    clear hk
    go_wp2_with fail
    refine (Tryz.strings_IndexByte _ _ _).mono ?_
    rintro _ w' ⟨rfl, rfl⟩
    have hneg2 : Lib.indexByte (⟨#[97, 98, 99, 100, 101, 102, 103, 104, 105, 106, 107, 108, 109, 110, 111, 112, 113, 114, 115, 116, 117, 118, 119, 120, 121, 122, 48, 49, 50, 51, 52, 53, 54, 55, 56, 57, 46, 45, 95, 47]⟩ : ByteArray).data.toList ((c.toNat : Int)).toNat.toUInt8 < 0 := hneg
    generalize Lib.indexByte (⟨#[97, 98, 99, 100, 101, 102, 103, 104, 105, 106, 107, 108, 109, 110, 111, 112, 113, 114, 115, 116, 117, 118, 119, 120, 121, 122, 48, 49, 50, 51, 52, 53, 54, 55, 56, 57, 46, 45, 95, 47]⟩ : ByteArray).data.toList ((c.toNat : Int)).toNat.toUInt8 = ix at *
    clear hneg
    go_wp2_with fail
    go_ret
    exact ⟨rfl, HB.out⟩
   | true =>
    have hneg : 0 ≤ Lib.indexByte lettersL ((c.toNat : Int)).toNat.toUInt8 := by
     rcases Int.lt_or_le (Lib.indexByte lettersL ((c.toNat : Int)).toNat.toUInt8) 0 with h | h
     ·have := hk.1 h; rw [hkc] at this; cases this
     ·exact h
    have HN : Hid (∀ j (h : j < s.data.toList.length), j < i + 1 → keyC (s.data.toList[j]'h) = true) := Lib.hid (fun j h hj => by
     by_cases e : j = i
     ·subst e
      rw [HCC.out]; exact hkc
     ·exact HI.out j h (by omega))
    clear hk
    go_wp2_with fail
    refine (Tryz.strings_IndexByte _ _ _).mono ?_
    rintro _ w' ⟨rfl, rfl⟩
    have hneg2 : 0 ≤ Lib.indexByte (⟨#[97, 98, 99, 100, 101, 102, 103, 104, 105, 106, 107, 108, 109, 110, 111, 112, 113, 114, 115, 116, 117, 118, 119, 120, 121, 122, 48, 49, 50, 51, 52, 53, 54, 55, 56, 57, 46, 45, 95, 47]⟩ : ByteArray).data.toList ((c.toNat : Int)).toNat.toUInt8 := hneg
    generalize Lib.indexByte (⟨#[97, 98, 99, 100, 101, 102, 103, 104, 105, 106, 107, 108, 109, 110, 111, 112, 113, 114, 115, 116, 117, 118, 119, 120, 121, 122, 48, 49, 50, 51, 52, 53, 54, 55, 56, 57, 46, 45, 95, 47]⟩ : ByteArray).data.toList ((c.toNat : Int)).toNat.toUInt8 = ix at *
    have hneg3 : ¬ ix < 0 := by omega
    clear hneg
    go_wp2_with fail
    go_roundw
    case rel => exact ⟨i + 1, by go_num, by omega, HN, by first | rfl | trivial⟩
    case measure => simp [intOf]; omega
  ·have hge : ¬ (i : Int) < (s.size : Int) := by omega
   obtain rfl : R = true := by
    rw [← HR.out, List.all_eq_true]
    intro c hc
    obtain ⟨j, hj, rfl⟩ := List.getElem_of_mem hc
    exact HI.out j hj (by have : s.data.toList.length = s.size := rfl; omega)
   go_wp2_with fail
   go_ret
   exact ⟨rfl, HB.out⟩
theorem F.len_zero {l : F} (h : l.len = 0) : l = .nil := by
 cases l with
 | nil => rfl
 | cons => simp only [F.len] at h; omega
theorem frameS_big {t e : ByteArray} (h : ¬ (frameS t e).size = 0) : t.size ≤ 9999999 := by
 unfold frameS at h
 by_cases hs : t.size ≤ 9999999
 ·exact hs
 ·rw [if_neg hs] at h
  exact absurd rfl h
theorem extract_app (a b : ByteArray) : (a ++ b).extract a.size (a ++ b).size = b := by
 apply ByteArray.ext
 apply Array.ext'
 rw [Lib.extract_data, ByteArray.data_append, Array.toList_append, ByteArray.size_append]
 rw [show a.size = a.data.toList.length from rfl, List.drop_left, Nat.add_sub_cancel_left]
 exact List.take_length
theorem getP_lst (d : Nat) (m : Int) (hm : ¬ m = 0) (t r : ByteArray) (h : t.size ≤ 9999999) : getP (d + 1) (frameS t ⟨#[93]⟩ ++ r) m = (match itemsP (getP d) (m - 1) (t.size + 1) t 0 with | some (l, z) => .ok ⟨3, 0, ⟨#[]⟩, l, (frameS t ⟨#[93]⟩).size, 1 + z⟩ | none => .error 1) := by
 obtain ⟨h1, h2⟩ := cut_frame t ⟨#[93]⟩ r h rfl
 unfold getP
 rw [h1]
 simp only [if_true, if_neg hm]
 rw [if_neg (by rw [h2]; decide), if_neg (by rw [h2]; decide), if_pos h2]
 all_goals (generalize itemsP (getP d) (m - 1) (t.size + 1) t 0 = q; rcases q with _ | ⟨l, z⟩ <;> rfl)
def TripQ (k n : Int) (s : ByteArray) (l : F) : Prop := ∀ (d : Nat) (m : Int) (r : ByteArray), vmayB k n s l d m = true → (-9223372036854775808 ≤ n ∧ n ≤ 9223372036854775807) → l.wf → ¬ (putV k n s l).size = 0 →
 getP d (putV k n s l ++ r) m = .ok ⟨k, n, s, l, (putV k n s l).size, 1 + l.cnt⟩
theorem isEmpty_eq {s : ByteArray} (h : s.toList.isEmpty = true) : s = ⟨#[]⟩ := by
 rw [ByteArray.toList_eq, List.isEmpty_iff] at h
 apply empty_of_size
 show s.data.size = 0
 rw [← Array.length_toList, h]
 rfl
theorem items_trip (d : Nat) (m : Int) : ∀ (g : F) (acc T : ByteArray), g.All TripQ → g.wf → g.ok = true → g.dep ≤ d → putF g acc = some T →
  ∃ R : ByteArray, T = acc ++ R ∧ ∀ (n f : Nat), (n : Int) + g.cnt ≤ m → R.size < f → itemsP (getP d) m f R n = some (g, n + g.cnt)
 | .nil, acc, T, _, _, _, _, hp => by
  cases hp
  refine ⟨⟨#[]⟩, (append_none _).symm, fun n f _ hf => ?_⟩
  obtain ⟨f, rfl⟩ : ∃ f', f = f' + 1 := ⟨f - 1, by omega⟩
  rfl
 | .cons k n s l r, acc, T, hQ, hw, hok, hd, hp => by
  rw [putF_cons] at hp
  obtain ⟨hq, hQr⟩ := hQ
  obtain ⟨hwn, hwl, hwr⟩ := hw
  simp only [F.ok, Bool.and_eq_true] at hok
  simp only [F.dep] at hd
  by_cases hbad : (putV k n s l).size = 0 ∨ 9999999 < acc.size + (putV k n s l).size
  ·rw [if_pos hbad] at hp; cases hp
  ·rw [if_neg hbad] at hp
   obtain ⟨R, hT, hR⟩ := items_trip d m r _ _ hQr hwr hok.2 (by omega) hp
   refine ⟨putV k n s l ++ R, by rw [hT, ByteArray.append_assoc], fun c f hc hf => ?_⟩
   simp only [F.cnt] at hc
   rw [ByteArray.size_append] at hf
   obtain ⟨f, rfl⟩ : ∃ f', f = f' + 1 := ⟨f - 1, by omega⟩
   rw [step_arm (by rw [ByteArray.size_append]; omega)]
   have hm : vmayB k n s l d (m - c) = true := by
    unfold vmayB
    simp only [Bool.and_eq_true, decide_eq_true_eq]
    exact ⟨⟨⟨hok.1.1, hok.1.2⟩, by omega⟩, by omega⟩
   rw [hq d (m - c) R hm hwn hwl (by omega)]
   simp only
   rw [extract_app, hR (c + (1 + l.cnt)) f (by omega) (by omega)]
   simp only [F.cnt]
   congr 2
   omega
theorem trip_q (k n : Int) (s : ByteArray) (l : F) (hl : l.All TripQ) : TripQ k n s l := by
 intro d m r hm hn hwf hne
 unfold vmayB at hm
 simp only [Bool.and_eq_true, decide_eq_true_eq] at hm
 obtain ⟨⟨⟨hp, hok⟩, hd⟩, hc⟩ := hm
 obtain ⟨d, rfl⟩ : ∃ d', d = d' + 1 := ⟨d - 1, by omega⟩
 have hm0 : ¬ m = 0 := by omega
 unfold pureB at hp
 unfold putV at hne ⊢
 by_cases h1 : k = 1
 ·subst h1
  rw [if_pos rfl] at hp hne ⊢
  simp only [Bool.and_eq_true, decide_eq_true_eq] at hp
  obtain rfl := F.len_zero hp.2
  obtain rfl := isEmpty_eq hp.1
  rw [getP_num d m hm0 _ r (frameS_big hne), numP_dec n hn.1 hn.2]
  simp only [F.cnt]
 rw [if_neg h1] at hp hne ⊢
 by_cases h2 : k = 2
 ·subst h2
  rw [if_pos rfl] at hp hne ⊢
  simp only [Bool.and_eq_true, decide_eq_true_eq] at hp
  obtain rfl := F.len_zero hp.2
  obtain rfl := hp.1
  rw [getP_str d m hm0 _ r (frameS_big hne)]
  simp only [F.cnt]
 rw [if_neg h2] at hp hne ⊢
 by_cases h3 : k = 3
 ·subst h3
  rw [if_pos rfl] at hp
  simp only [Bool.and_eq_true, decide_eq_true_eq] at hp
  obtain rfl := hp.1
  obtain rfl := isEmpty_eq hp.2
  cases ht : putF l ⟨#[]⟩ with
  | none =>
   rw [ht] at hne
   exact absurd rfl hne
  | some t =>
   rw [ht] at hne
   simp only at hne ⊢
   obtain ⟨R, hT, hR⟩ := items_trip d (m - 1) l _ _ hl hwf hok (by omega) ht
   have hTR : t = R := by
    rw [hT]
    apply ByteArray.ext
    rw [ByteArray.data_append]
    simp
   subst hTR
   rw [getP_lst d m hm0 _ r (frameS_big hne), hR 0 (t.size + 1) (by omega) (by omega)]
   simp only [Nat.zero_add]
 ·rw [if_neg h3] at hp
  cases hp
theorem trip_all (f : F) : f.All TripQ := F.all_of trip_q f
theorem trip_p (k n : Int) (s : ByteArray) (l : F) (hm : vmay k n s l = true) (hn : -9223372036854775808 ≤ n ∧ n ≤ 9223372036854775807) (hw : l.wf) (hne : ¬ (putV k n s l).size = 0) (r : ByteArray) :
  getR (putV k n s l ++ r) = .ok ⟨k, n, s, l, (putV k n s l).size, 1 + l.cnt⟩ :=
 trip_q k n s l (trip_all l) 6 6000 r hm hn hw hne
theorem ba_nil_append' (t : ByteArray) : (⟨#[]⟩ : ByteArray) ++ t = t := by
 apply ByteArray.ext
 simp
theorem dig_ten (n d : Nat) (hn : n ≠ 0) (hd : d < 10) : Lib.decDigits (n * 10 + d) = Lib.decDigits n ++ [UInt8.ofNat (48 + d)] := by
 rw [Lib.decDigits, dif_neg (by omega), show (n * 10 + d) / 10 = n by omega, show (n * 10 + d) % 10 = d by omega]
theorem u8_dig (c : UInt8) (h : 48 ≤ c.toNat) : UInt8.ofNat (48 + (c.toNat - 48)) = c := by
 rw [show 48 + (c.toNat - 48) = c.toNat by omega]
 exact UInt8.ofNat_toNat
theorem lenP_inv : ∀ (l : List UInt8) (n k : Nat) (P : List UInt8) (N K : Nat), lenP n k l = (N, K, 0) → (k = 0 ∧ n = 0 ∧ P = []) ∨ (0 < k ∧ P = Lib.decDigits n ∧ P.length = k) → ∃ rest, P ++ l = Lib.decDigits N ++ 58 :: rest ∧ K = (Lib.decDigits N).length + 1
 | [], n, k, P, N, K, h, _ => by
  unfold lenP at h
  simp at h
 | c :: l, n, k, P, N, K, h, hP => by
  unfold lenP at h
  by_cases hd : 48 ≤ c.toNat ∧ c.toNat ≤ 57
  ·rw [if_pos hd] at h
   by_cases hz : (0 < k ∧ n = 0) ∨ k = 7
   ·rw [if_pos hz] at h
    simp at h
   ·rw [if_neg hz] at h
    obtain ⟨rest, h1, h2⟩ := lenP_inv l (n * 10 + (c.toNat - 48)) (k + 1) (P ++ [c]) N K h (.inr (by
     refine ⟨by omega, ?_, ?_⟩
     ·rcases hP with ⟨rfl, rfl, rfl⟩ | ⟨hk, rfl, hl⟩
      ·rw [Nat.zero_mul, Nat.zero_add, Lib.decDigits, dif_pos (by omega), u8_dig c hd.1]
       rfl
      ·rw [dig_ten n (c.toNat - 48) (by omega) (by omega), u8_dig c hd.1]
     ·rcases hP with ⟨rfl, rfl, rfl⟩ | ⟨hk, _, hl⟩
      ·rfl
      ·rw [List.length_append, hl]; rfl))
    exact ⟨rest, by rw [← h1]; simp, h2⟩
  ·rw [if_neg hd] at h
   by_cases h0 : k = 0 ∨ c.toNat ≠ 58
   ·rw [if_pos h0] at h
    simp at h
   ·rw [if_neg h0] at h
    simp only [Prod.mk.injEq, and_true] at h
    obtain ⟨rfl, rfl⟩ := h
    have hc : c = 58 := UInt8.toNat_inj.1 (by have : ¬ c.toNat ≠ 58 := fun e => h0 (.inr e); show c.toNat = 58; omega)
    rcases hP with ⟨hk, _, _⟩ | ⟨hk, hp, hl⟩
    ·exact absurd (.inl hk) h0
    ·exact ⟨l, by rw [hp, hc], by rw [← hp, hl]⟩
theorem cut_inv (t : ByteArray) (h : (cutP t).2.2 = 0) (e : ByteArray) (he : (t.extract ((cutP t).2.1 - 1) (cutP t).2.1).data.toList = e.data.toList) : t.extract 0 (cutP t).2.1 = frameS (cutP t).1 e := by
 have hbd := cutP_bd t h
 have hfl := frame_list (cutP t).1 e hbd.2.2.1
 unfold cutP at h he hbd hfl ⊢
 rcases hr : lenP 0 0 t.data.toList with ⟨N, K, z⟩
 rw [hr] at h he hbd hfl
 simp only at h he hbd hfl ⊢
 by_cases hz : z = 0
 ·subst hz
  simp only [if_true] at h he hbd hfl ⊢
  by_cases hs : t.size - K ≤ N
  ·rw [if_pos hs] at h
   simp at h
  ·rw [if_neg hs] at h he hbd hfl ⊢
   simp only at he hbd hfl ⊢
   obtain ⟨rest, h1, h2⟩ := lenP_inv _ 0 0 [] N K hr (.inl ⟨rfl, rfl, rfl⟩)
   rw [List.nil_append] at h1
   have hsz : (t.extract K (K + N)).size = N := by rw [ByteArray.size_extract]; omega
   rw [hsz] at hfl
   apply ByteArray.ext
   apply Array.ext'
   rw [hfl, Lib.extract_data, Lib.extract_data, ← he, Lib.extract_data, h1]
   have e1 : (Lib.decDigits N ++ 58 :: rest).drop K = rest := by
    rw [h2, show Lib.decDigits N ++ 58 :: rest = (Lib.decDigits N ++ [58]) ++ rest by simp, List.drop_left' (by simp)]
   have e2 : (Lib.decDigits N ++ 58 :: rest).drop (K + N + 1 - 1) = rest.drop N := by
    rw [show K + N + 1 - 1 = K + N by omega, ← List.drop_drop, e1]
   rw [e1, e2, List.drop_zero, show K + N - K = N by omega, show K + N + 1 - 0 = (Lib.decDigits N).length + (1 + (N + 1)) by omega, show K + N + 1 - (K + N + 1 - 1) = 1 by omega]
   have e3 : (Lib.decDigits N ++ 58 :: rest).take ((Lib.decDigits N).length + (1 + (N + 1))) = Lib.decDigits N ++ (58 :: rest).take (1 + (N + 1)) := by
    rw [List.take_append, List.take_of_length_le (by omega)]
    congr 2
    omega
   rw [e3, show 1 + (N + 1) = (N + 1) + 1 by omega, List.take_succ_cons, List.take_add]
 ·rw [if_neg hz] at h
  simp at h
  exact absurd h hz
def InvG (d : Nat) (t : ByteArray) (m : Int) (x : G) : Prop :=
 vmayB x.k x.n x.s x.l d m = true ∧ putV x.k x.n x.s x.l = t.extract 0 x.b ∧ x.c = 1 + x.l.cnt ∧ 1 ≤ x.b ∧ x.b ≤ t.size
theorem items_inv (d : Nat) (H : ∀ (t : ByteArray) (m : Int) (x : G), 0 ≤ m → getP d t m = .ok x → InvG d t m x) (m : Int) : ∀ (f : Nat) (t : ByteArray) (n : Nat) (l : F) (z : Nat) (acc : ByteArray), itemsP (getP d) m f t n = some (l, z) → (n : Int) ≤ m → acc.size + t.size ≤ 9999999 →
  putF l acc = some (acc ++ t) ∧ l.ok = true ∧ l.dep ≤ d ∧ z = n + l.cnt
 | 0, t, n, l, z, acc, h, _, _ => by cases h
 | f + 1, t, n, l, z, acc, h, hn, ha => by
  unfold itemsP at h
  by_cases h0 : t.size = 0
  ·rw [if_pos h0] at h
   cases h
   refine ⟨?_, rfl, Nat.zero_le _, rfl⟩
   rw [empty_of_size h0, append_none]
   rfl
  ·rw [if_neg h0] at h
   cases hx : getP d t (m - n) with
   | error e => rw [hx] at h; cases h
   | ok x =>
    rw [hx] at h
    simp only at h
    obtain ⟨g1, g2, g3, g4, g5⟩ := H t (m - n) x (by omega) hx
    cases hr : itemsP (getP d) m f (t.extract x.b t.size) (n + x.c) with
    | none => rw [hr] at h; cases h
    | some q =>
     obtain ⟨r, zz⟩ := q
     rw [hr] at h
     simp only at h
     cases h
     unfold vmayB at g1
     simp only [Bool.and_eq_true, decide_eq_true_eq] at g1
     obtain ⟨⟨⟨a1, a2⟩, a3⟩, a4⟩ := g1
     have hsz : (t.extract 0 x.b).size = x.b := by rw [ByteArray.size_extract]; omega
     have hcut : t.extract 0 x.b ++ t.extract x.b t.size = t := by
      apply ByteArray.ext
      apply Array.ext'
      rw [ByteArray.data_append, Array.toList_append, Lib.extract_data, Lib.extract_data, List.drop_zero, Nat.sub_zero]
      rw [show List.take (t.size - x.b) (List.drop x.b t.data.toList) = List.drop x.b t.data.toList from List.take_of_length_le (by simp)]
      exact List.take_append_drop _ _
     obtain ⟨b1, b2, b3, b4⟩ := items_inv d H m f (t.extract x.b t.size) (n + x.c) r z (acc ++ t.extract 0 x.b) hr (by omega) (by rw [ByteArray.size_append, hsz, ByteArray.size_extract]; omega)
     refine ⟨?_, ?_, ?_, ?_⟩
     ·rw [putF_cons, g2, hsz, if_neg (by omega), b1, ByteArray.append_assoc, hcut]
     ·simp only [F.ok, a1, a2, b2, Bool.and_self]
     ·simp only [F.dep]; omega
     ·simp only [F.cnt]; omega
theorem getP_inv : ∀ (d : Nat) (t : ByteArray) (m : Int) (x : G), 0 ≤ m → getP d t m = .ok x → InvG d t m x
 | 0, t, m, x, _, h => by
  unfold getP at h
  split at h <;> cases h
 | d + 1, t, m, x, hm, h => by
  obtain ⟨_, hb, hc⟩ := getP_bd (d + 1) t m x h hm
  have hbd := cutP_bd t hc
  unfold getP at h
  rw [if_pos hc] at h
  by_cases hm0 : m = 0
  ·rw [if_pos hm0] at h; cases h
  ·rw [if_neg hm0] at h
   simp only at h
   split at h
   ·rename_i he
    split at h
    ·rename_i v hv
     cases h
     obtain ⟨ht, _, _⟩ := numP_inv hv
     refine ⟨?_, ?_, rfl, hbd.1, hbd.2.1⟩
     ·unfold vmayB pureB
      simp [F.ok, F.dep, F.cnt, F.len]
      omega
     ·rw [cut_inv t hc ⟨#[35]⟩ he, ht]
      rfl
    ·cases h
   ·split at h
    ·rename_i he
     cases h
     refine ⟨?_, ?_, rfl, hbd.1, hbd.2.1⟩
     ·unfold vmayB pureB
      simp [F.ok, F.dep, F.cnt, F.len]
      omega
     ·rw [cut_inv t hc ⟨#[44]⟩ he]
      rfl
    ·split at h
     ·rename_i he
      split at h
      ·rename_i l z hl
       cases h
       obtain ⟨b1, b2, b3, b4⟩ := items_inv d (getP_inv d) (m - 1) _ _ 0 l z ⟨#[]⟩ hl (by omega) (by have := hbd.2.2.1; show 0 + _ ≤ _; omega)
       have b5 := itemsP_bd (getP d) (fun t m x h hm => (getP_bd d t m x h hm).1) (m - 1) _ _ 0 l z hl (by omega)
       refine ⟨?_, ?_, by show 1 + z = 1 + l.cnt; omega, hbd.1, hbd.2.1⟩
       ·unfold vmayB pureB
        simp only [b2, Bool.and_true, Bool.and_eq_true, decide_eq_true_eq]
        refine ⟨⟨?_, by show (l.dep : Int) + 1 ≤ ((d + 1 : Nat) : Int); omega⟩, by show (l.cnt : Int) + 1 ≤ m; omega⟩
        simp
       ·rw [cut_inv t hc ⟨#[93]⟩ he]
        show putV 3 0 ⟨#[]⟩ l = _
        unfold putV
        rw [if_neg (by decide), if_neg (by decide), b1]
        simp only [ba_nil_append']
      ·cases h
     ·cases h
theorem getR_inv {t : ByteArray} {x : G} (h : getR t = .ok x) : vmay x.k x.n x.s x.l = true ∧ putS x.k x.n x.s x.l = t.extract 0 x.b ∧ 1 ≤ x.b ∧ x.b ≤ t.size ∧ (-9223372036854775808 ≤ x.n ∧ x.n ≤ 9223372036854775807) ∧ x.l.wf := by
 obtain ⟨h1, h2, h3, h4, h5⟩ := getP_inv 6 t 6000 x (by decide) h
 have hb := (getP_bd 6 t 6000 x h (by decide)).1
 refine ⟨h1, ?_, h4, h5, hb.2.2.1, hb.2.2.2⟩
 unfold putS
 rw [if_pos (show vmay x.k x.n x.s x.l = true from h1)]
 exact h2
def De.parts (d : De) : F :=
 .cons 1 d.kind ⟨#[]⟩ .nil (.cons 2 0 d.key .nil (.cons 2 0 d.body .nil (.cons 1 d.ver ⟨#[]⟩ .nil (.cons 1 d.cond ⟨#[]⟩ .nil (.cons 2 0 d.tag .nil (.cons 1 d.req ⟨#[]⟩ .nil (.cons 1 d.low ⟨#[]⟩ .nil .nil)))))))
theorem De.parts_len (d : De) : d.parts.len = 8 := rfl
theorem De.vmay (d : De) : vmay 3 0 ⟨#[]⟩ d.parts = true := by
 unfold Go.Proofs.YtoealjcjpjapkaaGreatDoor.vmay vmayB pureB
 simp [De.parts, F.ok, F.dep, F.cnt, F.len, pureB]
def ofF : F → Option De
 | .cons _ n0 _ _ (.cons _ _ s1 _ (.cons _ _ s2 _ (.cons _ n3 _ _ (.cons _ n4 _ _ (.cons _ _ s5 _ (.cons _ n6 _ _ (.cons _ n7 _ _ .nil))))))) => some ⟨n0, s1, s2, n3, n4, s5, n6, n7⟩
 | _ => none
theorem ofF_parts (d : De) : ofF d.parts = some d := rfl
theorem De.parts_wf {d : De} (h : d.wf) : d.parts.wf := by
 obtain ⟨h1, h2, h3, h4, h5⟩ := h
 exact ⟨h1, trivial, ⟨by decide, by decide⟩, trivial, ⟨by decide, by decide⟩, trivial, h2, trivial, h3, trivial, ⟨by decide, by decide⟩, trivial, h4, trivial, h5, trivial, trivial⟩
theorem num_text (n : Int) (h0 : -9223372036854775808 ≤ n) (h1 : n ≤ 9223372036854775807) : (putV 1 n ⟨#[]⟩ .nil).size ≤ 30 ∧ ¬ (putV 1 n ⟨#[]⟩ .nil).size = 0 := by
 have h2 := decS_size n h0 h1
 show (frameS (decS n) ⟨#[35]⟩).size ≤ 30 ∧ ¬ (frameS (decS n) ⟨#[35]⟩).size = 0
 rw [frameS_len _ _ (by omega)]
 have h3 := Lib.nDigits_pos (decS n).size
 have h4 := nd_le 7 (decS n).size (by omega) (by omega)
 show _ + 1 + _ + 1 ≤ 30 ∧ ¬ (_ + 1 + _ + 1 = 0)
 omega
theorem str_text (s : ByteArray) (h : s.size ≤ 1000) : (putV 2 0 s .nil).size ≤ 1010 ∧ ¬ (putV 2 0 s .nil).size = 0 := by
 show (frameS s ⟨#[44]⟩).size ≤ 1010 ∧ ¬ (frameS s ⟨#[44]⟩).size = 0
 rw [frameS_len _ _ (by omega)]
 have h3 := Lib.nDigits_pos s.size
 have h4 := nd_le 7 s.size (by omega) (by omega)
 show _ + 1 + _ + 1 ≤ 1010 ∧ ¬ (_ + 1 + _ + 1 = 0)
 omega
theorem putF_step {k n : Int} {s : ByteArray} {l r : F} {acc : ByteArray} {m : Nat} (h : (putV k n s l).size ≤ m ∧ ¬ (putV k n s l).size = 0) (ha : acc.size + m ≤ 9999999) : putF (.cons k n s l r) acc = putF r (acc ++ putV k n s l) := by
 rw [putF_cons, if_neg (by omega)]
theorem De.put_text {d : De} (h : d.wf) (hk : d.key.size ≤ 1000) (hb : d.body.size ≤ 1000) (ht : d.tag.size ≤ 1000) : ∃ T, putF d.parts ⟨#[]⟩ = some T ∧ T.size ≤ 4000 := by
 obtain ⟨h1, h2, h3, h4, h5⟩ := h
 have t0 := num_text d.kind h1.1 h1.2
 have t1 := str_text d.key hk
 have t2 := str_text d.body hb
 have t3 := num_text d.ver h2.1 h2.2
 have t4 := num_text d.cond h3.1 h3.2
 have t5 := str_text d.tag ht
 have t6 := num_text d.req h4.1 h4.2
 have t7 := num_text d.low h5.1 h5.2
 have e0 : (⟨#[]⟩ : ByteArray).size = 0 := rfl
 unfold De.parts
 rw [putF_step t0 (by omega), putF_step t1 (by rw [ByteArray.size_append]; omega), putF_step t2 (by simp only [ByteArray.size_append]; omega), putF_step t3 (by simp only [ByteArray.size_append]; omega), putF_step t4 (by simp only [ByteArray.size_append]; omega), putF_step t5 (by simp only [ByteArray.size_append]; omega), putF_step t6 (by simp only [ByteArray.size_append]; omega), putF_step t7 (by simp only [ByteArray.size_append]; omega)]
 exact ⟨_, rfl, by simp only [ByteArray.size_append]; omega⟩
theorem De.putV_pos {d : De} (h : d.wf) (hk : d.key.size ≤ 1000) (hb : d.body.size ≤ 1000) (ht : d.tag.size ≤ 1000) : ¬ (putV 3 0 ⟨#[]⟩ d.parts).size = 0 := by
 obtain ⟨T, h1, h2⟩ := De.put_text h hk hb ht
 unfold putV
 rw [if_neg (by decide), if_neg (by decide), h1]
 show ¬ (frameS T ⟨#[93]⟩).size = 0
 rw [frameS_len _ _ (by omega)]
 omega
theorem mayD_bd {d : De} (h : mayD d) : d.key.size ≤ 40 ∧ d.body.size ≤ 300 ∧ d.tag.size ≤ 8 := by
 obtain ⟨h1, _, _, _, h2⟩ := h
 unfold keyB at h1
 simp only [Bool.and_eq_true, decide_eq_true_eq] at h1
 refine ⟨h1.1.2, ?_, ?_⟩
 ·rcases h2 with ⟨_, h, _⟩ | ⟨_, h, _⟩ | ⟨_, h, _⟩ <;> omega
 ·rcases h2 with ⟨_, _, _, h⟩ | ⟨_, _, _, _, h⟩ | ⟨_, _, _, _, h⟩
  ·rcases h with ⟨_, h⟩ | ⟨_, p, hp⟩
   ·omega
   ·rw [hp.2, text_size p]; exact Nat.le_refl _
  ·omega
  ·omega
theorem De.trip {d : De} (h : d.wf) (hm : mayD d) (r : ByteArray) : getR (putV 3 0 ⟨#[]⟩ d.parts ++ r) = .ok ⟨3, 0, ⟨#[]⟩, d.parts, (putV 3 0 ⟨#[]⟩ d.parts).size, 1 + d.parts.cnt⟩ := by
 obtain ⟨h1, h2, h3⟩ := mayD_bd hm
 exact trip_p 3 0 ⟨#[]⟩ d.parts d.vmay ⟨by decide, by decide⟩ (De.parts_wf h) (De.putV_pos h (by omega) (by omega) (by omega)) r
theorem bound_of (r : Pl → Nat) (N : Nat) : ∀ E : List (Pl × Pl), ∃ R, N ≤ R ∧ ∀ e ∈ E, r e.2 ≤ R
 | [] => ⟨N, Nat.le_refl _, fun _ h => by cases h⟩
 | e :: E => by
  obtain ⟨R, h1, h2⟩ := bound_of r N E
  refine ⟨R + r e.2, by omega, fun f hf => ?_⟩
  rcases List.mem_cons.1 hf with rfl | hf
  ·omega
  ·have := h2 f hf; omega
theorem set_ne6 (L : Array Bool) (i : Nat) (h : i ≠ 6) : (L.setIfInBounds i true).getD 6 false = L.getD 6 false := by
 rw [Array.getD_eq_getD_getElem?, Array.getElem?_setIfInBounds_ne h, ← Array.getD_eq_getD_getElem?]
theorem set_ne7 (L : Array Bool) (i : Nat) (h : i ≠ 7) : (L.setIfInBounds i true).getD 7 false = L.getD 7 false := by
 rw [Array.getD_eq_getD_getElem?, Array.getElem?_setIfInBounds_ne h, ← Array.getD_eq_getD_getElem?]
end Go.Proofs.YtoealjcjpjapkaaGreatDoor
