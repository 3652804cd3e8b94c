/-
 Contracts of the program, and what they rest on.
-/
import Derived.Test.YtlpgphiccjkenaaGreatDoorM03
import Derived.WalkKit
import Derived.WalkSpells
import Derived.WalkLawsBesides
import Derived.Lib.Hide
import Derived.Lib.Strings
import Derived.Lib.Bytealg
import Derived.Test.YtlpgphiccjkenaaGreatDoorShelf
import Derived.Test.YtlpgphiccjkenaaGreatDoorProg
import Derived.BigQuiet
import Derived.Deep.RegionLaw
import Derived.Deep.RegionHeld3
import Derived.BigRegion
import Derived.Test.YtlpgphiccjkenaaGreatDoorM05
import Derived.Test.YtlpgphiccjkenaaGreatDoorM07
set_option maxRecDepth 100000
set_option maxHeartbeats 16000000
namespace Go.Proofs.YtlpgphiccjkenaaGreatDoor
open Go.RowKit
def keyC (c : UInt8) : Bool := (97 ≤ c.toNat && c.toNat ≤ 122) || (48 ≤ c.toNat && c.toNat ≤ 57) || c.toNat == 46 || c.toNat == 45 || c.toNat == 95 || c.toNat == 47
def keyB (s : ByteArray) : Bool := decide (s.size ≠ 0) && decide (s.size ≤ 40) && s.data.toList.all keyC
def homeP (r : Int) : Int := if 1 ≤ r.tdiv 4294967296 ∧ r.tdiv 4294967296 ≤ 5 ∧ r.tmod 4294967296 ≠ 0 then r.tdiv 4294967296 else 0
def makeP (node n : Int) : Int := if 1 ≤ node ∧ node ≤ 5 ∧ 1 ≤ n ∧ n < 4294967296 then node * 4294967296 + n else 0
structure De where
 kind : Int
 key : ByteArray
 body : ByteArray
 ver : Int
 cond : Int
 tag : ByteArray
 req : Int
 low : Int
def De.zero : De := ⟨0, ⟨#[]⟩, ⟨#[]⟩, 0, 0, ⟨#[]⟩, 0, 0⟩
def condD (c : Int) (t : ByteArray) : Prop := ((c = 0 ∨ c = 1) ∧ t.size = 0) ∨ (c = 2 ∧ ∃ p, IsText t p)
def pureD (d : De) : Prop :=
 (d.kind = 1 ∧ d.body.size ≤ 300 ∧ d.ver = 0 ∧ condD d.cond d.tag) ∨ (d.kind = 2 ∧ d.body.size = 0 ∧ d.ver = 0 ∧ d.cond = 0 ∧ d.tag.size = 0) ∨
  (d.kind = 3 ∧ d.body.size = 0 ∧ (1 ≤ d.ver ∧ d.ver ≤ 1099511627776) ∧ d.cond = 0 ∧ d.tag.size = 0)
def mayD (d : De) : Prop := keyB d.key = true ∧ homeP d.req ≠ 0 ∧ 0 ≤ d.low ∧ d.low ≤ d.req ∧ pureD d
def De.wf (d : De) : Prop := (-9223372036854775808 ≤ d.kind ∧ d.kind ≤ 9223372036854775807) ∧ (-9223372036854775808 ≤ d.ver ∧ d.ver ≤ 9223372036854775807) ∧ (-9223372036854775808 ≤ d.cond ∧ d.cond ≤ 9223372036854775807) ∧ (-9223372036854775808 ≤ d.req ∧ d.req ≤ 9223372036854775807) ∧ (-9223372036854775808 ≤ d.low ∧ d.low ≤ 9223372036854775807)
theorem home_p (r : Int) (h0 : -9223372036854775808 ≤ r) (h1 : r ≤ 9223372036854775807) (w : World) :
  Calls Tryz.prog 26 #[.int .i64 r] w fun e w' => e = .returned (.int .i64 (homeP r)) ∧ w = w' := by
 unfold homeP
 by_cases a : 1 ≤ r.tdiv 4294967296 ∧ r.tdiv 4294967296 ≤ 5 ∧ r.tmod 4294967296 ≠ 0
 ·rw [if_pos a]
  obtain ⟨a1, a2, a3⟩ := a
  have b1 : ¬ r.tdiv 4294967296 < 1 := by omega
  have b2 : ¬ 5 < r.tdiv 4294967296 := by omega
  have b3 : (r.tmod 4294967296 == 0) = false := by rw [beq_eq_false_iff_ne]; exact a3
  clear a1 a2 a3
  go_enter Tryz.func26, Tryz.ntmps26
  go_wp2_with fail
  go_ret
  exact ⟨rfl, rfl⟩
 ·rw [if_neg a]
  go_enter Tryz.func26, Tryz.ntmps26
  by_cases b1 : r.tdiv 4294967296 < 1
  ·clear a
   go_wp2_with fail
   go_ret
   exact ⟨rfl, rfl⟩
  by_cases b2 : 5 < r.tdiv 4294967296
  ·clear a
   go_wp2_with fail
   go_ret
   exact ⟨rfl, rfl⟩
  have b4 : r.tmod 4294967296 = 0 := by
   by_cases e : r.tmod 4294967296 = 0
   ·exact e
   ·exact absurd ⟨by omega, by omega, e⟩ a
  have b3 : (r.tmod 4294967296 == 0) = true := by rw [beq_iff_eq]; exact b4
  clear a b4
  go_wp2_with fail
  go_ret
  exact ⟨rfl, rfl⟩
theorem make_p (node n : Int) (h0 : -9223372036854775808 ≤ node) (h1 : node ≤ 9223372036854775807) (h2 : -9223372036854775808 ≤ n) (h3 : n ≤ 9223372036854775807) (w : World) :
  Calls Tryz.prog 27 #[.int .i64 node, .int .i64 n] w fun e w' => e = .returned (.int .i64 (makeP node n)) ∧ w = w' := by
 unfold makeP
 by_cases a : 1 ≤ node ∧ node ≤ 5 ∧ 1 ≤ n ∧ n < 4294967296
 ·rw [if_pos a]
  obtain ⟨a1, a2, a3, a4⟩ := a
  have e1 : IntKind.i64.wrap (node * 4294967296) = node * 4294967296 := IntWalk.i64_in _ (by omega)
  have e2 : IntKind.i64.wrap (node * 4294967296 + n) = node * 4294967296 + n := IntWalk.i64_in _ (by omega)
  have b1 : ¬ node < 1 := by omega
  have b2 : ¬ 5 < node := by omega
  have b3 : ¬ n < 1 := by omega
  have b4 : ¬ 4294967296 ≤ n := by omega
  clear a1 a2 a3 a4
  go_enter Tryz.func27, Tryz.ntmps27
  go_wp2_with fail
  go_ret
  exact ⟨rfl, rfl⟩
 ·rw [if_neg a]
  go_enter Tryz.func27, Tryz.ntmps27
  by_cases b1 : node < 1
  ·clear a
   go_wp2_with fail
   go_ret
   exact ⟨rfl, rfl⟩
  by_cases b2 : 5 < node
  ·clear a
   go_wp2_with fail
   go_ret
   exact ⟨rfl, rfl⟩
  by_cases b3 : n < 1
  ·clear a
   go_wp2_with fail
   go_ret
   exact ⟨rfl, rfl⟩
  have b4 : 4294967296 ≤ n := by omega
  clear a
  go_wp2_with fail
  go_ret
  exact ⟨rfl, rfl⟩
def lettersL : List UInt8 := [97, 98, 99, 100, 101, 102, 103, 104, 105, 106, 107, 108, 109, 110, 111, 112, 113, 114, 115, 116, 117, 118, 119, 120, 121, 122, 48, 49, 50, 51, 52, 53, 54, 55, 56, 57, 46, 45, 95, 47]
theorem key_letters : ∀ c : Fin 256, (Lib.indexByte lettersL (UInt8.ofNat c.val) < 0) ↔ keyC (UInt8.ofNat c.val) = false := by decide +kernel
theorem letters_at (c : UInt8) : (Lib.indexByte lettersL ((c.toNat : Int)).toNat.toUInt8 < 0) ↔ keyC c = false := by
 have h := key_letters ⟨c.toNat, c.toNat_lt⟩
 rw [show (UInt8.ofNat c.toNat) = c from UInt8.ofNat_toNat] at h
 rw [show ((c.toNat : Int)).toNat.toUInt8 = c from by rw [Int.toNat_natCast]; exact UInt8.ofNat_toNat]
 exact h
theorem key_p (s : ByteArray) (w : World) :
  Calls Tryz.prog 24 #[.string s] w fun e w' => e = .returned (.bool (keyB s)) ∧ Below w.heap.size w w' := by
 obtain ⟨R, hR⟩ : ∃ R, keyB s = R := ⟨_, rfl⟩
 rw [hR]
 unfold keyB at hR
 have v1 : (convert 9 102 (.string s)).run Tryz.prog w = .ok (.slice (some ⟨w.heap.size, 0, none⟩) s.size (grownCap w s.size 0 5)) (Lib.bytesWorld w 5 s) :=
  Lib.run_convert_string_bytes (P := Tryz.prog) w 9 102 5 s (u := .string) Tryz.underlying9 Tryz.underlying102 Tryz.underlying5
 by_cases h0 : s.size = 0
 ·obtain rfl : R = false := by rw [← hR, h0]; rfl
  obtain rfl : s = ⟨#[]⟩ := ByteArray.ext (Array.eq_empty_of_size_eq_zero h0)
  clear hR h0 v1
  go_enter Tryz.func24, Tryz.ntmps24
  go_wp2_with fail
  go_ret
  exact ⟨rfl, Below.refl _ _⟩
 have hse : s.toList.isEmpty = false := by
  rw [ByteArray.toList_eq]
  cases h : s.data.toList with
  | nil => exact absurd (show s.data.toList.length = 0 by rw [h]; rfl) h0
  | cons => rfl
 by_cases h1 : 40 < s.size
 ·obtain rfl : R = false := by rw [← hR, decide_eq_false (show ¬ s.size ≤ 40 by omega)]; simp
  have h2 : (40 : Int) < (s.size : Int) := by omega
  clear hR v1
  go_enter Tryz.func24, Tryz.ntmps24
  go_wp2_with fail
  go_ret
  exact ⟨rfl, Below.refl _ _⟩
 rw [decide_eq_true h0, decide_eq_true (show s.size ≤ 40 by omega)] at hR
 simp only [Bool.and_true, Bool.true_and] at hR
 have HR := Lib.hid hR
 have h2 : ¬ (40 : Int) < (s.size : Int) := by omega
 have hs40 : s.size ≤ 40 := by omega
 clear hR h1
 have hbw : Below w.heap.size w (Lib.bytesWorld w 5 s) := Lib.bytesWorld_below w 5 s
 have HB := Lib.hid hbw
 have HC : Hid (∀ i (h : i < s.data.toList.length), (Lib.bytesWorld w 5 s).cell? ⟨w.heap.size, i, none⟩ = some (.int .u8 ((s.data.toList[i]'h).toNat : Int))) := Lib.hid (fun i h => by
  have hc := Lib.bytesWorld_cell w 5 s i h
  rw [hc]
  simp [List.getD, List.getElem?_eq_getElem h])
 clear hbw
 go_enter Tryz.func24, Tryz.ntmps24
 go_wp2_with fail
 go_loopw [15] (fun iv wr => ∃ i : Nat, iv = .int .i64 i ∧ i ≤ s.size ∧ Hid (∀ j (h : j < s.data.toList.length), j < i → keyC (s.data.toList[j]'h) = true) ∧ wr = Lib.bytesWorld w 5 s) (fun iv _ => s.size - (intOf iv).toNat)
 case atStart => exact ⟨0, rfl, Nat.zero_le _, Lib.hid (fun j _ h => absurd h (Nat.not_lt_zero _)), rfl⟩
 case round =>
  obtain ⟨i, rfl, his, HI, rfl⟩ := hrel
  by_cases hi : i < s.size
  ·have hlt : (i : Int) < (s.size : Int) := by omega
   have hil : i < s.data.toList.length := hi
   have hc := HC.out i hil
   obtain ⟨c, hcc⟩ : ∃ c, s.data.toList[i]'hil = c := ⟨_, rfl⟩
   rw [hcc] at hc
   have HCC := Lib.hid hcc
   clear hcc
   have hk := letters_at c
   cases hkc : keyC c with
   | false =>
    have hneg := hk.2 hkc
    obtain rfl : R = false := by
     rw [← HR.out]
     rw [List.all_eq_false]
     exact ⟨c, by rw [← HCC.out]; exact List.getElem_mem hil, by rw [hkc]; simp⟩
    clear hk
    go_wp2_with fail
    refine (Tryz.strings_IndexByte _ _ _).mono ?_
    rintro _ w' ⟨rfl, rfl⟩
    have hneg2 : Lib.indexByte (⟨#[97, 98, 99, 100, 101, 102, 103, 104, 105, 106, 107, 108, 109, 110, 111, 112, 113, 114, 115, 116, 117, 118, 119, 120, 121, 122, 48, 49, 50, 51, 52, 53, 54, 55, 56, 57, 46, 45, 95, 47]⟩ : ByteArray).data.toList ((c.toNat : Int)).toNat.toUInt8 < 0 := hneg
    generalize Lib.indexByte (⟨#[97, 98, 99, 100, 101, 102, 103, 104, 105, 106, 107, 108, 109, 110, 111, 112, 113, 114, 115, 116, 117, 118, 119, 120, 121, 122, 48, 49, 50, 51, 52, 53, 54, 55, 56, 57, 46, 45, 95, 47]⟩ : ByteArray).data.toList ((c.toNat : Int)).toNat.toUInt8 = ix at *
    clear hneg
    go_wp2_with fail
    go_ret
    exact ⟨rfl, HB.out⟩
   | true =>
    have hneg : 0 ≤ Lib.indexByte lettersL ((c.toNat : Int)).toNat.toUInt8 := by
     rcases Int.lt_or_le (Lib.indexByte lettersL ((c.toNat : Int)).toNat.toUInt8) 0 with h | h
     ·have := hk.1 h; rw [hkc] at this; cases this
     ·exact h
    have HN : Hid (∀ j (h : j < s.data.toList.length), j < i + 1 → keyC (s.data.toList[j]'h) = true) := Lib.hid (fun j h hj => by
     by_cases e : j = i
     ·subst e
      rw [HCC.out]; exact hkc
     ·exact HI.out j h (by omega))
    clear hk
    go_wp2_with fail
    refine (Tryz.strings_IndexByte _ _ _).mono ?_
    rintro _ w' ⟨rfl, rfl⟩
    have hneg2 : 0 ≤ Lib.indexByte (⟨#[97, 98, 99, 100, 101, 102, 103, 104, 105, 106, 107, 108, 109, 110, 111, 112, 113, 114, 115, 116, 117, 118, 119, 120, 121, 122, 48, 49, 50, 51, 52, 53, 54, 55, 56, 57, 46, 45, 95, 47]⟩ : ByteArray).data.toList ((c.toNat : Int)).toNat.toUInt8 := hneg
    generalize Lib.indexByte (⟨#[97, 98, 99, 100, 101, 102, 103, 104, 105, 106, 107, 108, 109, 110, 111, 112, 113, 114, 115, 116, 117, 118, 119, 120, 121, 122, 48, 49, 50, 51, 52, 53, 54, 55, 56, 57, 46, 45, 95, 47]⟩ : ByteArray).data.toList ((c.toNat : Int)).toNat.toUInt8 = ix at *
    have hneg3 : ¬ ix < 0 := by omega
    clear hneg
    go_wp2_with fail
    go_roundw
    case rel => exact ⟨i + 1, by go_num, by omega, HN, by first | rfl | trivial⟩
    case measure => simp [intOf]; omega
  ·have hge : ¬ (i : Int) < (s.size : Int) := by omega
   obtain rfl : R = true := by
    rw [← HR.out, List.all_eq_true]
    intro c hc
    obtain ⟨j, hj, rfl⟩ := List.getElem_of_mem hc
    exact HI.out j hj (by have : s.data.toList.length = s.size := rfl; omega)
   go_wp2_with fail
   go_ret
   exact ⟨rfl, HB.out⟩
end Go.Proofs.YtlpgphiccjkenaaGreatDoor
namespace Go.Proofs.YtlpgphiccjkenaaGreatDoor
open Go.RowKit
section
variable {P : Program} {Q : Exit → Act → World → Prop}
def awaits (o : Oper) (i : Nat) : Bool := o.after.any fun e => Region.binds .any e && e.on == i
def opAwaits (ops : Array Oper) (j i : Nat) : Bool := match ops[j]? with | some p => awaits p i | none => false
def opFree (ops : Array Oper) (i : Nat) : Bool := match ops[i]? with | some p => p.guard.isNone && p.after.all (fun e : Edge => decide (e.on < i)) | none => false
def lastOf (ops : Array Oper) (o : Oper) : Bool :=
 (o.guard.isNone && o.after.all (fun e : Edge => decide (e.on < ops.size))) && (List.range ops.size).all (fun i => opFree ops i) &&
  (List.range ops.size).all (fun i => awaits o i || (List.range ops.size).any fun j => decide (i < j) && opAwaits ops j i)
structure LastOf (ops : Array Oper) (o : Oper) : Prop where
 free : ∀ (i : Nat) (p : Oper), ops[i]? = some p → p.guard = none ∧ ∀ e ∈ p.after, e.on < i
 last : o.guard = none
 low : ∀ e ∈ o.after, e.on < ops.size
 up : ∀ i, i < ops.size → awaits o i = true ∨ ∃ j, i < j ∧ j < ops.size ∧ opAwaits ops j i = true
theorem lastOf_spec {ops : Array Oper} {o : Oper} (h : lastOf ops o = true) : LastOf ops o := by
 unfold lastOf at h
 rw [Bool.and_eq_true, Bool.and_eq_true, Bool.and_eq_true] at h
 obtain ⟨⟨⟨h1, h0⟩, h2⟩, h3⟩ := h
 refine ⟨fun i p hp => ?_, by simpa using h1, fun e he => by simpa using Array.all_eq_true_iff_forall_mem.1 h0 e he, fun i hi => ?_⟩
 ·have hi : i < ops.size := (Array.getElem?_eq_some_iff.1 hp).1
  have := List.all_eq_true.1 h2 i (List.mem_range.2 hi)
  unfold opFree at this
  simp only [hp, Bool.and_eq_true] at this
  refine ⟨by simpa using this.1, fun e he => ?_⟩
  have := Array.all_eq_true_iff_forall_mem.1 this.2 e he
  simpa using this
 ·have := List.all_eq_true.1 h3 i (List.mem_range.2 hi)
  rw [Bool.or_eq_true] at this
  rcases this with h | h
  ·exact .inl h
  ·obtain ⟨j, hj, hh⟩ := List.any_eq_true.1 h
   rw [Bool.and_eq_true] at hh
   exact .inr ⟨j, by simpa using hh.1, List.mem_range.1 hj, hh.2⟩
theorem awaits_spec {o : Oper} {i : Nat} (h : awaits o i = true) : ∃ e ∈ o.after, Region.binds .any e = true ∧ e.on = i := by
 unfold awaits at h
 rw [← Array.any_toList] at h
 obtain ⟨e, he, hh⟩ := List.any_eq_true.1 h
 rw [Array.mem_toList_iff] at he
 rw [Bool.and_eq_true] at hh
 exact ⟨e, he, hh.1, by simpa using hh.2⟩
def Down (ops : Array Oper) (listed : Array Bool) : Prop := ∀ (j : Nat) (p : Oper), ops[j]? = some p → listed.getD j false = true → ∀ e ∈ p.after, Region.binds .any e = true → listed.getD e.on false = true
theorem getD_push (l : Array Bool) (i : Nat) : (l.push false).getD i false = l.getD i false := by
 rw [Array.getD_eq_getD_getElem?, Array.getD_eq_getD_getElem?, Array.getElem?_push]
 split
 ·rename_i h
  subst h
  rw [Array.getElem?_eq_none (Nat.le_refl _)]
  rfl
 ·rfl
theorem getD_push_lt (l : Array Bool) {i : Nat} (h : i < l.size) : (l.push false).getD i true = l.getD i true := by
 rw [Array.getD_eq_getD_getElem?, Array.getD_eq_getD_getElem?, Array.getElem?_push, if_neg (by omega)]
theorem getD_tf (l : Array Bool) {i : Nat} (h : i < l.size) : l.getD i true = l.getD i false := by
 rw [Array.getD_eq_getD_getElem?, Array.getD_eq_getD_getElem?, Array.getElem?_eq_getElem h]
 rfl
theorem wpOp_push {ops : Array Oper} {o : Oper} {i : Nat} (hi : i < ops.size) (hg : ∀ p, ops[i]? = some p → p.guard = none) {N : Act → World → Prop} {K : Act → World → Prop} {a : Act} {w : World}
  (h : wpOp P ops (Exit.then N Q) i K a w) : wpOp P (ops.push o) Q i K a w := by
 unfold wpOp at *
 rw [Array.getElem?_push, if_neg (by omega)]
 rw [Array.getElem?_eq_getElem hi] at *
 have hg' : ops[i].guard = none := hg _ rfl
 have hw : ∀ f, Region.wanted ops[i] f = true := fun f => by unfold Region.wanted; rw [hg']
 simp only [hw, if_true] at *
 rcases h with h | ⟨h1, h2⟩
 ·refine .inl ?_
  unfold Oper.wp at *
  generalize (execOp a.eval ops[i]).run P w = r at *
  cases r with
  | ok n w' =>
   cases n <;> simp only [Oper.upon] at h ⊢ <;> first | exact h | exact Calls.mono h (fun e w'' he => by cases e <;> exact he)
  | halt x w' => cases x <;> simp only [Oper.upon] at h ⊢ <;> exact h
 ·exact .inr ⟨h1, h2⟩
theorem any_done {ops : Array Oper} {listed : Array Bool} {a : Act} {w : World} (hr : Region.ready .any ops listed = []) (h : Q .normal a w) : ∀ fuel, wpAny P .any ops Q fuel listed a w
 | 0 => ⟨hr, h⟩
 | _ + 1 => ⟨fun _ => h, by rw [hr]; simp⟩
theorem wpAny_mono {ops : Array Oper} {md : Region.Mode} {N N' : Act → World → Prop} (hq : ∀ a w, N a w → N' a w) : ∀ (fuel : Nat) (listed : Array Bool) (a : Act) (w : World), wpAny P md ops (Exit.then N Q) fuel listed a w → wpAny P md ops (Exit.then N' Q) fuel listed a w := by
 have one : ∀ (i : Nat) (K K' : Act → World → Prop) (a : Act) (w : World), (∀ a w, K a w → K' a w) → wpOp P ops (Exit.then N Q) i K a w → wpOp P ops (Exit.then N' Q) i K' a w := by
  intro i K K' a w hk h
  have h := wpOp_mono hk h
  unfold wpOp at *
  split
  ·simpa [*] using h
  ·rename_i o ho
   simp only [ho] at h
   split
   ·rename_i hw
    simp only [hw, if_true] at h
    rcases h with h | ⟨h1, h2⟩
    ·refine .inl ?_
     unfold Oper.wp at *
     generalize (execOp a.eval o).run P w = r at *
     cases r with
     | ok n w' =>
      cases n <;> simp only [Oper.upon] at h ⊢ <;> first | exact h | exact Calls.mono h (fun e w'' he => by cases e <;> exact he)
     | halt x w' => cases x <;> simp only [Oper.upon] at h ⊢ <;> exact h
    ·exact .inr ⟨h1, h2⟩
   ·rename_i hw
    simp only [hw] at h
    exact h
 intro fuel
 induction fuel with
 | zero => intro listed a w h; exact ⟨h.1, hq _ _ h.2⟩
 | succ fuel ih => intro listed a w h; exact ⟨fun h0 => hq _ _ (h.1 h0), fun i hi => one i _ _ a w (fun a w hk => ih _ a w hk) (h.2 i hi)⟩
theorem any_last {ops : Array Oper} {o : Oper} (hl : LastOf ops o) : ∀ (fuel : Nat) (listed : Array Bool) (a : Act) (w : World), listed.size = ops.size → Down ops listed →
  wpAny P .any ops (Exit.then (fun a w => wpOp P (ops.push o) Q ops.size (Q .normal) a w) Q) fuel listed a w → wpAny P .any (ops.push o) Q (fuel + 1) (listed.push false) a w := by
 have all : ∀ listed : Array Bool, listed.size = ops.size → Region.ready .any ops listed = [] → ∀ i, i < ops.size → listed.getD i false = true := by
  intro listed hs hr i
  induction i using Nat.strongRecOn with
  | _ i ih =>
   intro hi
   cases hb : listed.getD i false with
   | true => rfl
   | false =>
    exfalso
    have : i ∈ Region.ready .any ops listed := by
     refine mem_ready.2 ⟨by rw [getD_tf _ (by omega)]; exact hb, ops[i], Array.getElem?_eq_getElem hi, fun e he _ => ?_⟩
     have := (hl.free i _ (Array.getElem?_eq_getElem hi)).2 e he
     exact ih e.on this (by omega)
    rw [hr] at this
    cases this
 have top : ∀ listed : Array Bool, Down ops listed → (∀ e ∈ o.after, Region.binds .any e = true → listed.getD e.on false = true) → ∀ n i, ops.size - i ≤ n → i < ops.size → listed.getD i false = true := by
  intro listed hd ho n
  induction n with
  | zero => intro i h1 h2; omega
  | succ n ih =>
   intro i h1 h2
   rcases hl.up i h2 with h | ⟨j, h3, h4, h5⟩
   ·obtain ⟨e, he, hb, rfl⟩ := awaits_spec h
    exact ho e he hb
   ·unfold opAwaits at h5
    rw [Array.getElem?_eq_getElem h4] at h5
    obtain ⟨e, he, hb, rfl⟩ := awaits_spec h5
    exact hd j _ (Array.getElem?_eq_getElem h4) (ih j (by omega) h4) e he hb
 have full : ∀ listed : Array Bool, listed.size = ops.size → (∀ i, i < ops.size → listed.getD i false = true) → Region.ready .any ops listed = [] := by
  intro listed hs h
  refine List.eq_nil_iff_forall_not_mem.2 fun j hj => ?_
  obtain ⟨h1, p, hp, _⟩ := mem_ready.1 hj
  have hj : j < ops.size := (Array.getElem?_eq_some_iff.1 hp).1
  rw [getD_tf _ (by omega), h j hj] at h1
  cases h1
 have atEnd : ∀ (fuel : Nat) (listed : Array Bool) (a : Act) (w : World), listed.size = ops.size → (∀ i, i < ops.size → listed.getD i false = true) → wpOp P (ops.push o) Q ops.size (Q .normal) a w →
   wpOp P (ops.push o) Q ops.size (wpAny P .any (ops.push o) Q fuel ((listed.push false).setIfInBounds ops.size true)) a w := by
  intro fuel listed a w hs h hq
  refine wpOp_mono (fun a' w' hq' => any_done ?_ hq' fuel) hq
  refine List.eq_nil_iff_forall_not_mem.2 fun j hj => ?_
  obtain ⟨h1, p, hp, _⟩ := mem_ready.1 hj
  have hj : j < (ops.push o).size := (Array.getElem?_eq_some_iff.1 hp).1
  rw [Array.size_push] at hj
  by_cases hjs : j = ops.size
  ·subst hjs
   rw [← hs, Array.getD_eq_getD_getElem?] at h1
   simp at h1
  ·have h2 := h j (by omega)
   rw [Array.getD_eq_getD_getElem?, Array.getElem?_setIfInBounds_ne (fun e => hjs e.symm), ← Array.getD_eq_getD_getElem?, getD_push_lt _ (by omega), getD_tf _ (by omega), h2] at h1
   cases h1
 have ready : ∀ listed : Array Bool, listed.size = ops.size → (∀ i, i < ops.size → listed.getD i false = true) → ops.size ∈ Region.ready .any (ops.push o) (listed.push false) := by
  intro listed hs h
  refine mem_ready.2 ⟨?_, o, by simp, fun e he _ => ?_⟩
  ·rw [← hs, Array.getD_eq_getD_getElem?]; simp
  ·rw [getD_push]; exact h _ (hl.low e he)
 have below : ∀ (listed : Array Bool) (i : Nat), listed.size = ops.size → i ∈ Region.ready .any (ops.push o) (listed.push false) → i < ops.size → i ∈ Region.ready .any ops listed := by
  intro listed i hs hi hlt
  obtain ⟨h1, p, hp, h2⟩ := mem_ready.1 hi
  rw [Array.getElem?_push, if_neg (by omega)] at hp
  rw [getD_push_lt _ (by omega)] at h1
  exact mem_ready.2 ⟨h1, p, hp, fun e he hb => by rw [← getD_push]; exact h2 e he hb⟩
 have above : ∀ (listed : Array Bool) (i : Nat), listed.size = ops.size → Down ops listed → i ∈ Region.ready .any (ops.push o) (listed.push false) → ¬ i < ops.size → i = ops.size ∧ ∀ k, k < ops.size → listed.getD k false = true := by
  intro listed i hs hd hi hge
  obtain ⟨h1, p, hp, h2⟩ := mem_ready.1 hi
  have hi2 : i < (ops.push o).size := (Array.getElem?_eq_some_iff.1 hp).1
  rw [Array.size_push] at hi2
  obtain rfl : i = ops.size := by omega
  rw [Array.getElem?_push_size] at hp
  obtain rfl := Option.some.inj hp
  exact ⟨rfl, fun k hk => top listed hd (fun e he hb => by rw [← getD_push]; exact h2 e he hb) _ k (Nat.le_refl _) hk⟩
 intro fuel
 induction fuel with
 | zero =>
  intro listed a w hs hd h
  have hA := all listed hs h.1
  refine ⟨fun h0 => ?_, fun i hi => ?_⟩
  ·have := ready listed hs hA
   rw [h0] at this
   cases this
  ·by_cases hlt : i < ops.size
   ·have := below listed i hs hi hlt
    rw [h.1] at this
    cases this
   ·obtain ⟨rfl, hf⟩ := above listed i hs hd hi hlt
    exact atEnd _ _ _ _ hs hf h.2
 | succ fuel ih =>
  intro listed a w hs hd h
  refine ⟨fun h0 => ?_, fun i hi => ?_⟩
  ·have hA : ∀ i, i < ops.size → listed.getD i false = true := by
    refine all listed hs (List.eq_nil_iff_forall_not_mem.2 fun j hj => ?_)
    obtain ⟨h1, p, hp, h2⟩ := mem_ready.1 hj
    have hjs : j < ops.size := (Array.getElem?_eq_some_iff.1 hp).1
    have : j ∈ Region.ready .any (ops.push o) (listed.push false) := mem_ready.2 ⟨by rw [getD_push_lt _ (by omega)]; exact h1, p, by rw [Array.getElem?_push, if_neg (by omega)]; exact hp, fun e he hb => by rw [getD_push]; exact h2 e he hb⟩
    rw [h0] at this
    cases this
   have := ready listed hs hA
   rw [h0] at this
   cases this
  ·by_cases hlt : i < ops.size
   ·have hb := below listed i hs hi hlt
    refine wpOp_push hlt (fun p hp => (hl.free i p hp).1) (wpOp_mono (fun a' w' hk => ?_) (h.2 i hb))
    have e1 : (listed.push false).setIfInBounds i true = (listed.setIfInBounds i true).push false := by
     apply Array.ext_getElem?
     intro k
     simp only [Array.getElem?_setIfInBounds, Array.getElem?_push, Array.size_push, Array.size_setIfInBounds]
     by_cases hik : i = k
     ·subst hik
      rw [if_pos rfl, if_pos (by omega), if_neg (by omega), if_pos rfl, if_pos (by omega)]
     ·rw [if_neg hik, if_neg hik]
    rw [e1]
    refine ih _ _ _ (by simp [hs]) (fun j p hp hj e he hbn => ?_) hk
    obtain ⟨_, q, hq, hdeps⟩ := mem_ready.1 hb
    have mono : ∀ k, listed.getD k false = true → (listed.setIfInBounds i true).getD k false = true := by
     intro k hk
     rw [Array.getD_eq_getD_getElem?, Array.getElem?_setIfInBounds]
     by_cases hik : i = k
     ·subst hik; rw [if_pos rfl, if_pos (by omega)]; rfl
     ·rw [if_neg hik, ← Array.getD_eq_getD_getElem?]; exact hk
    by_cases hij : i = j
    ·subst hij
     rw [hq] at hp
     obtain rfl := Option.some.inj hp
     exact mono _ (hdeps e he hbn)
    ·rw [Array.getD_eq_getD_getElem?, Array.getElem?_setIfInBounds, if_neg hij, ← Array.getD_eq_getD_getElem?] at hj
     exact mono _ (hd j p hp hj e he hbn)
   ·obtain ⟨rfl, hf⟩ := above listed i hs hd hi hlt
    refine atEnd _ _ _ _ hs hf (h.1 (full listed hs hf))
theorem wp_region_last {S : World → Prop} {id : Nat} {ops : Array Oper} {all : Array Oper} {o : Oper} {a : Act} {w : World} (hm : P.follows .mixedOrders = true) (he : all = ops.push o) (hl : lastOf ops o = true)
  (h : wpAnyH P .any ops (Exit.then (fun a w => if Region.wanted o (yielded all a.tmps) = true then Oper.wp P o a w (Q .normal) Q else Q .normal (a.put o.dst undef) w) Q) S ops.size (Array.replicate ops.size false) a w.drew) : (Code.region id all true).wp P Q a w := by
 subst he
 refine wp_region_any hm ?_
 have := any_last (P := P) (Q := Q) (lastOf_spec hl) ops.size (Array.replicate ops.size false) a w.drew (by simp) (fun j p hp hj => by
  have hj' : j < ops.size := (Array.getElem?_eq_some_iff.1 hp).1
  rw [Array.getD_eq_getD_getElem?] at hj
  simp [hj'] at hj) ?_
 ·rw [Array.size_push, Array.replicate_succ]
  exact this
 ·refine wpAny_mono (fun a w hq => ?_) _ _ _ _ (wpAny_of_held _ _ _ _ h)
  unfold wpOp
  rw [Array.getElem?_push_size]
  simp only
  split
  ·rename_i hw
   simp only [hw, if_true] at hq
   exact .inl hq
  ·rename_i hw
   simp only [hw] at hq
   exact hq
end
theorem F.len_zero {l : F} (h : l.len = 0) : l = .nil := by
 cases l with
 | nil => rfl
 | cons => simp only [F.len] at h; omega
theorem frameS_big {t e : ByteArray} (h : ¬ (frameS t e).size = 0) : t.size ≤ 9999999 := by
 unfold frameS at h
 by_cases hs : t.size ≤ 9999999
 ·exact hs
 ·rw [if_neg hs] at h
  exact absurd rfl h
theorem extract_app (a b : ByteArray) : (a ++ b).extract a.size (a ++ b).size = b := by
 apply ByteArray.ext
 apply Array.ext'
 rw [Lib.extract_data, ByteArray.data_append, Array.toList_append, ByteArray.size_append]
 rw [show a.size = a.data.toList.length from rfl, List.drop_left, Nat.add_sub_cancel_left]
 exact List.take_length
theorem getP_lst (d : Nat) (m : Int) (hm : ¬ m = 0) (t r : ByteArray) (h : t.size ≤ 9999999) : getP (d + 1) (frameS t ⟨#[93]⟩ ++ r) m = (match itemsP (getP d) (m - 1) (t.size + 1) t 0 with | some (l, z) => .ok ⟨3, 0, ⟨#[]⟩, l, (frameS t ⟨#[93]⟩).size, 1 + z⟩ | none => .error 1) := by
 obtain ⟨h1, h2⟩ := cut_frame t ⟨#[93]⟩ r h rfl
 unfold getP
 rw [h1]
 simp only [if_true, if_neg hm]
 rw [if_neg (by rw [h2]; decide), if_neg (by rw [h2]; decide), if_pos h2]
 all_goals (generalize itemsP (getP d) (m - 1) (t.size + 1) t 0 = q; rcases q with _ | ⟨l, z⟩ <;> rfl)
def TripQ (k n : Int) (s : ByteArray) (l : F) : Prop := ∀ (d : Nat) (m : Int) (r : ByteArray), vmayB k n s l d m = true → (-9223372036854775808 ≤ n ∧ n ≤ 9223372036854775807) → l.wf → ¬ (putV k n s l).size = 0 →
 getP d (putV k n s l ++ r) m = .ok ⟨k, n, s, l, (putV k n s l).size, 1 + l.cnt⟩
theorem isEmpty_eq {s : ByteArray} (h : s.toList.isEmpty = true) : s = ⟨#[]⟩ := by
 rw [ByteArray.toList_eq, List.isEmpty_iff] at h
 apply empty_of_size
 show s.data.size = 0
 rw [← Array.length_toList, h]
 rfl
theorem items_trip (d : Nat) (m : Int) : ∀ (g : F) (acc T : ByteArray), g.All TripQ → g.wf → g.ok = true → g.dep ≤ d → putF g acc = some T →
  ∃ R : ByteArray, T = acc ++ R ∧ ∀ (n f : Nat), (n : Int) + g.cnt ≤ m → R.size < f → itemsP (getP d) m f R n = some (g, n + g.cnt)
 | .nil, acc, T, _, _, _, _, hp => by
  cases hp
  refine ⟨⟨#[]⟩, (append_none _).symm, fun n f _ hf => ?_⟩
  obtain ⟨f, rfl⟩ : ∃ f', f = f' + 1 := ⟨f - 1, by omega⟩
  rfl
 | .cons k n s l r, acc, T, hQ, hw, hok, hd, hp => by
  rw [putF_cons] at hp
  obtain ⟨hq, hQr⟩ := hQ
  obtain ⟨hwn, hwl, hwr⟩ := hw
  simp only [F.ok, Bool.and_eq_true] at hok
  simp only [F.dep] at hd
  by_cases hbad : (putV k n s l).size = 0 ∨ 9999999 < acc.size + (putV k n s l).size
  ·rw [if_pos hbad] at hp; cases hp
  ·rw [if_neg hbad] at hp
   obtain ⟨R, hT, hR⟩ := items_trip d m r _ _ hQr hwr hok.2 (by omega) hp
   refine ⟨putV k n s l ++ R, by rw [hT, ByteArray.append_assoc], fun c f hc hf => ?_⟩
   simp only [F.cnt] at hc
   rw [ByteArray.size_append] at hf
   obtain ⟨f, rfl⟩ : ∃ f', f = f' + 1 := ⟨f - 1, by omega⟩
   rw [step_arm (by rw [ByteArray.size_append]; omega)]
   have hm : vmayB k n s l d (m - c) = true := by
    unfold vmayB
    simp only [Bool.and_eq_true, decide_eq_true_eq]
    exact ⟨⟨⟨hok.1.1, hok.1.2⟩, by omega⟩, by omega⟩
   rw [hq d (m - c) R hm hwn hwl (by omega)]
   simp only
   rw [extract_app, hR (c + (1 + l.cnt)) f (by omega) (by omega)]
   simp only [F.cnt]
   congr 2
   omega
theorem trip_q (k n : Int) (s : ByteArray) (l : F) (hl : l.All TripQ) : TripQ k n s l := by
 intro d m r hm hn hwf hne
 unfold vmayB at hm
 simp only [Bool.and_eq_true, decide_eq_true_eq] at hm
 obtain ⟨⟨⟨hp, hok⟩, hd⟩, hc⟩ := hm
 obtain ⟨d, rfl⟩ : ∃ d', d = d' + 1 := ⟨d - 1, by omega⟩
 have hm0 : ¬ m = 0 := by omega
 unfold pureB at hp
 unfold putV at hne ⊢
 by_cases h1 : k = 1
 ·subst h1
  rw [if_pos rfl] at hp hne ⊢
  simp only [Bool.and_eq_true, decide_eq_true_eq] at hp
  obtain rfl := F.len_zero hp.2
  obtain rfl := isEmpty_eq hp.1
  rw [getP_num d m hm0 _ r (frameS_big hne), numP_dec n hn.1 hn.2]
  simp only [F.cnt]
 rw [if_neg h1] at hp hne ⊢
 by_cases h2 : k = 2
 ·subst h2
  rw [if_pos rfl] at hp hne ⊢
  simp only [Bool.and_eq_true, decide_eq_true_eq] at hp
  obtain rfl := F.len_zero hp.2
  obtain rfl := hp.1
  rw [getP_str d m hm0 _ r (frameS_big hne)]
  simp only [F.cnt]
 rw [if_neg h2] at hp hne ⊢
 by_cases h3 : k = 3
 ·subst h3
  rw [if_pos rfl] at hp
  simp only [Bool.and_eq_true, decide_eq_true_eq] at hp
  obtain rfl := hp.1
  obtain rfl := isEmpty_eq hp.2
  cases ht : putF l ⟨#[]⟩ with
  | none =>
   rw [ht] at hne
   exact absurd rfl hne
  | some t =>
   rw [ht] at hne
   simp only at hne ⊢
   obtain ⟨R, hT, hR⟩ := items_trip d (m - 1) l _ _ hl hwf hok (by omega) ht
   have hTR : t = R := by
    rw [hT]
    apply ByteArray.ext
    rw [ByteArray.data_append]
    simp
   subst hTR
   rw [getP_lst d m hm0 _ r (frameS_big hne), hR 0 (t.size + 1) (by omega) (by omega)]
   simp only [Nat.zero_add]
 ·rw [if_neg h3] at hp
  cases hp
theorem trip_all (f : F) : f.All TripQ := F.all_of trip_q f
theorem trip_p (k n : Int) (s : ByteArray) (l : F) (hm : vmay k n s l = true) (hn : -9223372036854775808 ≤ n ∧ n ≤ 9223372036854775807) (hw : l.wf) (hne : ¬ (putV k n s l).size = 0) (r : ByteArray) :
  getR (putV k n s l ++ r) = .ok ⟨k, n, s, l, (putV k n s l).size, 1 + l.cnt⟩ :=
 trip_q k n s l (trip_all l) 6 6000 r hm hn hw hne
theorem ba_nil_append' (t : ByteArray) : (⟨#[]⟩ : ByteArray) ++ t = t := by
 apply ByteArray.ext
 simp
theorem dig_ten (n d : Nat) (hn : n ≠ 0) (hd : d < 10) : Lib.decDigits (n * 10 + d) = Lib.decDigits n ++ [UInt8.ofNat (48 + d)] := by
 rw [Lib.decDigits, dif_neg (by omega), show (n * 10 + d) / 10 = n by omega, show (n * 10 + d) % 10 = d by omega]
theorem u8_dig (c : UInt8) (h : 48 ≤ c.toNat) : UInt8.ofNat (48 + (c.toNat - 48)) = c := by
 rw [show 48 + (c.toNat - 48) = c.toNat by omega]
 exact UInt8.ofNat_toNat
theorem lenP_inv : ∀ (l : List UInt8) (n k : Nat) (P : List UInt8) (N K : Nat), lenP n k l = (N, K, 0) → (k = 0 ∧ n = 0 ∧ P = []) ∨ (0 < k ∧ P = Lib.decDigits n ∧ P.length = k) → ∃ rest, P ++ l = Lib.decDigits N ++ 58 :: rest ∧ K = (Lib.decDigits N).length + 1
 | [], n, k, P, N, K, h, _ => by
  unfold lenP at h
  simp at h
 | c :: l, n, k, P, N, K, h, hP => by
  unfold lenP at h
  by_cases hd : 48 ≤ c.toNat ∧ c.toNat ≤ 57
  ·rw [if_pos hd] at h
   by_cases hz : (0 < k ∧ n = 0) ∨ k = 7
   ·rw [if_pos hz] at h
    simp at h
   ·rw [if_neg hz] at h
    obtain ⟨rest, h1, h2⟩ := lenP_inv l (n * 10 + (c.toNat - 48)) (k + 1) (P ++ [c]) N K h (.inr (by
     refine ⟨by omega, ?_, ?_⟩
     ·rcases hP with ⟨rfl, rfl, rfl⟩ | ⟨hk, rfl, hl⟩
      ·rw [Nat.zero_mul, Nat.zero_add, Lib.decDigits, dif_pos (by omega), u8_dig c hd.1]
       rfl
      ·rw [dig_ten n (c.toNat - 48) (by omega) (by omega), u8_dig c hd.1]
     ·rcases hP with ⟨rfl, rfl, rfl⟩ | ⟨hk, _, hl⟩
      ·rfl
      ·rw [List.length_append, hl]; rfl))
    exact ⟨rest, by rw [← h1]; simp, h2⟩
  ·rw [if_neg hd] at h
   by_cases h0 : k = 0 ∨ c.toNat ≠ 58
   ·rw [if_pos h0] at h
    simp at h
   ·rw [if_neg h0] at h
    simp only [Prod.mk.injEq, and_true] at h
    obtain ⟨rfl, rfl⟩ := h
    have hc : c = 58 := UInt8.toNat_inj.1 (by have : ¬ c.toNat ≠ 58 := fun e => h0 (.inr e); show c.toNat = 58; omega)
    rcases hP with ⟨hk, _, _⟩ | ⟨hk, hp, hl⟩
    ·exact absurd (.inl hk) h0
    ·exact ⟨l, by rw [hp, hc], by rw [← hp, hl]⟩
theorem cut_inv (t : ByteArray) (h : (cutP t).2.2 = 0) (e : ByteArray) (he : (t.extract ((cutP t).2.1 - 1) (cutP t).2.1).data.toList = e.data.toList) : t.extract 0 (cutP t).2.1 = frameS (cutP t).1 e := by
 have hbd := cutP_bd t h
 have hfl := frame_list (cutP t).1 e hbd.2.2.1
 unfold cutP at h he hbd hfl ⊢
 rcases hr : lenP 0 0 t.data.toList with ⟨N, K, z⟩
 rw [hr] at h he hbd hfl
 simp only at h he hbd hfl ⊢
 by_cases hz : z = 0
 ·subst hz
  simp only [if_true] at h he hbd hfl ⊢
  by_cases hs : t.size - K ≤ N
  ·rw [if_pos hs] at h
   simp at h
  ·rw [if_neg hs] at h he hbd hfl ⊢
   simp only at he hbd hfl ⊢
   obtain ⟨rest, h1, h2⟩ := lenP_inv _ 0 0 [] N K hr (.inl ⟨rfl, rfl, rfl⟩)
   rw [List.nil_append] at h1
   have hsz : (t.extract K (K + N)).size = N := by rw [ByteArray.size_extract]; omega
   rw [hsz] at hfl
   apply ByteArray.ext
   apply Array.ext'
   rw [hfl, Lib.extract_data, Lib.extract_data, ← he, Lib.extract_data, h1]
   have e1 : (Lib.decDigits N ++ 58 :: rest).drop K = rest := by
    rw [h2, show Lib.decDigits N ++ 58 :: rest = (Lib.decDigits N ++ [58]) ++ rest by simp, List.drop_left' (by simp)]
   have e2 : (Lib.decDigits N ++ 58 :: rest).drop (K + N + 1 - 1) = rest.drop N := by
    rw [show K + N + 1 - 1 = K + N by omega, ← List.drop_drop, e1]
   rw [e1, e2, List.drop_zero, show K + N - K = N by omega, show K + N + 1 - 0 = (Lib.decDigits N).length + (1 + (N + 1)) by omega, show K + N + 1 - (K + N + 1 - 1) = 1 by omega]
   have e3 : (Lib.decDigits N ++ 58 :: rest).take ((Lib.decDigits N).length + (1 + (N + 1))) = Lib.decDigits N ++ (58 :: rest).take (1 + (N + 1)) := by
    rw [List.take_append, List.take_of_length_le (by omega)]
    congr 2
    omega
   rw [e3, show 1 + (N + 1) = (N + 1) + 1 by omega, List.take_succ_cons, List.take_add]
 ·rw [if_neg hz] at h
  simp at h
  exact absurd h hz
def InvG (d : Nat) (t : ByteArray) (m : Int) (x : G) : Prop :=
 vmayB x.k x.n x.s x.l d m = true ∧ putV x.k x.n x.s x.l = t.extract 0 x.b ∧ x.c = 1 + x.l.cnt ∧ 1 ≤ x.b ∧ x.b ≤ t.size
theorem items_inv (d : Nat) (H : ∀ (t : ByteArray) (m : Int) (x : G), 0 ≤ m → getP d t m = .ok x → InvG d t m x) (m : Int) : ∀ (f : Nat) (t : ByteArray) (n : Nat) (l : F) (z : Nat) (acc : ByteArray), itemsP (getP d) m f t n = some (l, z) → (n : Int) ≤ m → acc.size + t.size ≤ 9999999 →
  putF l acc = some (acc ++ t) ∧ l.ok = true ∧ l.dep ≤ d ∧ z = n + l.cnt
 | 0, t, n, l, z, acc, h, _, _ => by cases h
 | f + 1, t, n, l, z, acc, h, hn, ha => by
  unfold itemsP at h
  by_cases h0 : t.size = 0
  ·rw [if_pos h0] at h
   cases h
   refine ⟨?_, rfl, Nat.zero_le _, rfl⟩
   rw [empty_of_size h0, append_none]
   rfl
  ·rw [if_neg h0] at h
   cases hx : getP d t (m - n) with
   | error e => rw [hx] at h; cases h
   | ok x =>
    rw [hx] at h
    simp only at h
    obtain ⟨g1, g2, g3, g4, g5⟩ := H t (m - n) x (by omega) hx
    cases hr : itemsP (getP d) m f (t.extract x.b t.size) (n + x.c) with
    | none => rw [hr] at h; cases h
    | some q =>
     obtain ⟨r, zz⟩ := q
     rw [hr] at h
     simp only at h
     cases h
     unfold vmayB at g1
     simp only [Bool.and_eq_true, decide_eq_true_eq] at g1
     obtain ⟨⟨⟨a1, a2⟩, a3⟩, a4⟩ := g1
     have hsz : (t.extract 0 x.b).size = x.b := by rw [ByteArray.size_extract]; omega
     have hcut : t.extract 0 x.b ++ t.extract x.b t.size = t := by
      apply ByteArray.ext
      apply Array.ext'
      rw [ByteArray.data_append, Array.toList_append, Lib.extract_data, Lib.extract_data, List.drop_zero, Nat.sub_zero]
      rw [show List.take (t.size - x.b) (List.drop x.b t.data.toList) = List.drop x.b t.data.toList from List.take_of_length_le (by simp)]
      exact List.take_append_drop _ _
     obtain ⟨b1, b2, b3, b4⟩ := items_inv d H m f (t.extract x.b t.size) (n + x.c) r z (acc ++ t.extract 0 x.b) hr (by omega) (by rw [ByteArray.size_append, hsz, ByteArray.size_extract]; omega)
     refine ⟨?_, ?_, ?_, ?_⟩
     ·rw [putF_cons, g2, hsz, if_neg (by omega), b1, ByteArray.append_assoc, hcut]
     ·simp only [F.ok, a1, a2, b2, Bool.and_self]
     ·simp only [F.dep]; omega
     ·simp only [F.cnt]; omega
theorem getP_inv : ∀ (d : Nat) (t : ByteArray) (m : Int) (x : G), 0 ≤ m → getP d t m = .ok x → InvG d t m x
 | 0, t, m, x, _, h => by
  unfold getP at h
  split at h <;> cases h
 | d + 1, t, m, x, hm, h => by
  obtain ⟨_, hb, hc⟩ := getP_bd (d + 1) t m x h hm
  have hbd := cutP_bd t hc
  unfold getP at h
  rw [if_pos hc] at h
  by_cases hm0 : m = 0
  ·rw [if_pos hm0] at h; cases h
  ·rw [if_neg hm0] at h
   simp only at h
   split at h
   ·rename_i he
    split at h
    ·rename_i v hv
     cases h
     obtain ⟨ht, _, _⟩ := numP_inv hv
     refine ⟨?_, ?_, rfl, hbd.1, hbd.2.1⟩
     ·unfold vmayB pureB
      simp [F.ok, F.dep, F.cnt, F.len]
      omega
     ·rw [cut_inv t hc ⟨#[35]⟩ he, ht]
      rfl
    ·cases h
   ·split at h
    ·rename_i he
     cases h
     refine ⟨?_, ?_, rfl, hbd.1, hbd.2.1⟩
     ·unfold vmayB pureB
      simp [F.ok, F.dep, F.cnt, F.len]
      omega
     ·rw [cut_inv t hc ⟨#[44]⟩ he]
      rfl
    ·split at h
     ·rename_i he
      split at h
      ·rename_i l z hl
       cases h
       obtain ⟨b1, b2, b3, b4⟩ := items_inv d (getP_inv d) (m - 1) _ _ 0 l z ⟨#[]⟩ hl (by omega) (by have := hbd.2.2.1; show 0 + _ ≤ _; omega)
       have b5 := itemsP_bd (getP d) (fun t m x h hm => (getP_bd d t m x h hm).1) (m - 1) _ _ 0 l z hl (by omega)
       refine ⟨?_, ?_, by show 1 + z = 1 + l.cnt; omega, hbd.1, hbd.2.1⟩
       ·unfold vmayB pureB
        simp only [b2, Bool.and_true, Bool.and_eq_true, decide_eq_true_eq]
        refine ⟨⟨?_, by show (l.dep : Int) + 1 ≤ ((d + 1 : Nat) : Int); omega⟩, by show (l.cnt : Int) + 1 ≤ m; omega⟩
        simp
       ·rw [cut_inv t hc ⟨#[93]⟩ he]
        show putV 3 0 ⟨#[]⟩ l = _
        unfold putV
        rw [if_neg (by decide), if_neg (by decide), b1]
        simp only [ba_nil_append']
      ·cases h
     ·cases h
theorem getR_inv {t : ByteArray} {x : G} (h : getR t = .ok x) : vmay x.k x.n x.s x.l = true ∧ putS x.k x.n x.s x.l = t.extract 0 x.b ∧ 1 ≤ x.b ∧ x.b ≤ t.size ∧ (-9223372036854775808 ≤ x.n ∧ x.n ≤ 9223372036854775807) ∧ x.l.wf := by
 obtain ⟨h1, h2, h3, h4, h5⟩ := getP_inv 6 t 6000 x (by decide) h
 have hb := (getP_bd 6 t 6000 x h (by decide)).1
 refine ⟨h1, ?_, h4, h5, hb.2.2.1, hb.2.2.2⟩
 unfold putS
 rw [if_pos (show vmay x.k x.n x.s x.l = true from h1)]
 exact h2
def De.parts (d : De) : F :=
 .cons 1 d.kind ⟨#[]⟩ .nil (.cons 2 0 d.key .nil (.cons 2 0 d.body .nil (.cons 1 d.ver ⟨#[]⟩ .nil (.cons 1 d.cond ⟨#[]⟩ .nil (.cons 2 0 d.tag .nil (.cons 1 d.req ⟨#[]⟩ .nil (.cons 1 d.low ⟨#[]⟩ .nil .nil)))))))
theorem De.parts_len (d : De) : d.parts.len = 8 := rfl
theorem De.vmay (d : De) : vmay 3 0 ⟨#[]⟩ d.parts = true := by
 unfold Go.Proofs.YtlpgphiccjkenaaGreatDoor.vmay vmayB pureB
 simp [De.parts, F.ok, F.dep, F.cnt, F.len, pureB]
def ofF : F → Option De
 | .cons _ n0 _ _ (.cons _ _ s1 _ (.cons _ _ s2 _ (.cons _ n3 _ _ (.cons _ n4 _ _ (.cons _ _ s5 _ (.cons _ n6 _ _ (.cons _ n7 _ _ .nil))))))) => some ⟨n0, s1, s2, n3, n4, s5, n6, n7⟩
 | _ => none
theorem ofF_parts (d : De) : ofF d.parts = some d := rfl
theorem De.parts_wf {d : De} (h : d.wf) : d.parts.wf := by
 obtain ⟨h1, h2, h3, h4, h5⟩ := h
 exact ⟨h1, trivial, ⟨by decide, by decide⟩, trivial, ⟨by decide, by decide⟩, trivial, h2, trivial, h3, trivial, ⟨by decide, by decide⟩, trivial, h4, trivial, h5, trivial, trivial⟩
theorem num_text (n : Int) (h0 : -9223372036854775808 ≤ n) (h1 : n ≤ 9223372036854775807) : (putV 1 n ⟨#[]⟩ .nil).size ≤ 30 ∧ ¬ (putV 1 n ⟨#[]⟩ .nil).size = 0 := by
 have h2 := decS_size n h0 h1
 show (frameS (decS n) ⟨#[35]⟩).size ≤ 30 ∧ ¬ (frameS (decS n) ⟨#[35]⟩).size = 0
 rw [frameS_len _ _ (by omega)]
 have h3 := Lib.nDigits_pos (decS n).size
 have h4 := nd_le 7 (decS n).size (by omega) (by omega)
 show _ + 1 + _ + 1 ≤ 30 ∧ ¬ (_ + 1 + _ + 1 = 0)
 omega
theorem str_text (s : ByteArray) (h : s.size ≤ 1000) : (putV 2 0 s .nil).size ≤ 1010 ∧ ¬ (putV 2 0 s .nil).size = 0 := by
 show (frameS s ⟨#[44]⟩).size ≤ 1010 ∧ ¬ (frameS s ⟨#[44]⟩).size = 0
 rw [frameS_len _ _ (by omega)]
 have h3 := Lib.nDigits_pos s.size
 have h4 := nd_le 7 s.size (by omega) (by omega)
 show _ + 1 + _ + 1 ≤ 1010 ∧ ¬ (_ + 1 + _ + 1 = 0)
 omega
theorem putF_step {k n : Int} {s : ByteArray} {l r : F} {acc : ByteArray} {m : Nat} (h : (putV k n s l).size ≤ m ∧ ¬ (putV k n s l).size = 0) (ha : acc.size + m ≤ 9999999) : putF (.cons k n s l r) acc = putF r (acc ++ putV k n s l) := by
 rw [putF_cons, if_neg (by omega)]
theorem De.put_text {d : De} (h : d.wf) (hk : d.key.size ≤ 1000) (hb : d.body.size ≤ 1000) (ht : d.tag.size ≤ 1000) : ∃ T, putF d.parts ⟨#[]⟩ = some T ∧ T.size ≤ 4000 := by
 obtain ⟨h1, h2, h3, h4, h5⟩ := h
 have t0 := num_text d.kind h1.1 h1.2
 have t1 := str_text d.key hk
 have t2 := str_text d.body hb
 have t3 := num_text d.ver h2.1 h2.2
 have t4 := num_text d.cond h3.1 h3.2
 have t5 := str_text d.tag ht
 have t6 := num_text d.req h4.1 h4.2
 have t7 := num_text d.low h5.1 h5.2
 have e0 : (⟨#[]⟩ : ByteArray).size = 0 := rfl
 unfold De.parts
 rw [putF_step t0 (by omega), putF_step t1 (by rw [ByteArray.size_append]; omega), putF_step t2 (by simp only [ByteArray.size_append]; omega), putF_step t3 (by simp only [ByteArray.size_append]; omega), putF_step t4 (by simp only [ByteArray.size_append]; omega), putF_step t5 (by simp only [ByteArray.size_append]; omega), putF_step t6 (by simp only [ByteArray.size_append]; omega), putF_step t7 (by simp only [ByteArray.size_append]; omega)]
 exact ⟨_, rfl, by simp only [ByteArray.size_append]; omega⟩
theorem De.putV_pos {d : De} (h : d.wf) (hk : d.key.size ≤ 1000) (hb : d.body.size ≤ 1000) (ht : d.tag.size ≤ 1000) : ¬ (putV 3 0 ⟨#[]⟩ d.parts).size = 0 := by
 obtain ⟨T, h1, h2⟩ := De.put_text h hk hb ht
 unfold putV
 rw [if_neg (by decide), if_neg (by decide), h1]
 show ¬ (frameS T ⟨#[93]⟩).size = 0
 rw [frameS_len _ _ (by omega)]
 omega
theorem mayD_bd {d : De} (h : mayD d) : d.key.size ≤ 40 ∧ d.body.size ≤ 300 ∧ d.tag.size ≤ 8 := by
 obtain ⟨h1, _, _, _, h2⟩ := h
 unfold keyB at h1
 simp only [Bool.and_eq_true, decide_eq_true_eq] at h1
 refine ⟨h1.1.2, ?_, ?_⟩
 ·rcases h2 with ⟨_, h, _⟩ | ⟨_, h, _⟩ | ⟨_, h, _⟩ <;> omega
 ·rcases h2 with ⟨_, _, _, h⟩ | ⟨_, _, _, _, h⟩ | ⟨_, _, _, _, h⟩
  ·rcases h with ⟨_, h⟩ | ⟨_, p, hp⟩
   ·omega
   ·rw [hp.2, text_size p]; exact Nat.le_refl _
  ·omega
  ·omega
theorem De.trip {d : De} (h : d.wf) (hm : mayD d) (r : ByteArray) : getR (putV 3 0 ⟨#[]⟩ d.parts ++ r) = .ok ⟨3, 0, ⟨#[]⟩, d.parts, (putV 3 0 ⟨#[]⟩ d.parts).size, 1 + d.parts.cnt⟩ := by
 obtain ⟨h1, h2, h3⟩ := mayD_bd hm
 exact trip_p 3 0 ⟨#[]⟩ d.parts d.vmay ⟨by decide, by decide⟩ (De.parts_wf h) (De.putV_pos h (by omega) (by omega) (by omega)) r
end Go.Proofs.YtlpgphiccjkenaaGreatDoor
namespace Go.Proofs.YtlpgphiccjkenaaGreatDoor
open Go.RowKit
section
variable {P : Program} {ops : Array Oper} {Q : Exit → Act → World → Prop} {S : Array Bool → World → Prop}
def RunsTo (P : Program) (o : Oper) (v : Value) (a : Act) (w : World) : Prop :=
 (execOp a.eval o).run P w = .ok (.value v) w ∨ ∃ f args, (execOp a.eval o).run P w = .ok (.enter f args) w ∧ Calls P f args w fun e w' => e = .returned v ∧ w = w'
def YieldsD (P : Program) (ops : Array Oper) (S : Array Bool → World → Prop) (i : Nat) (o : Oper) (v : Value) (a : Act) : Prop :=
 o.guard = none ∧ ∀ L w, L.getD i true = false → Down ops L → S L w → RunsTo P o v a w
theorem RunsTo.wp {o : Oper} {v : Value} {a : Act} {w : World} (h : RunsTo P o v a w) {K : Act → World → Prop} (hk : K (a.put o.dst v) w) : Oper.wp P o a w K Q := by
 unfold Oper.wp
 rcases h with h | ⟨f, args, h, hc⟩
 ·rw [h]; exact hk
 ·rw [h]
  refine Calls.mono hc fun e w' he => ?_
  obtain ⟨rfl, rfl⟩ := he
  exact hk
theorem wanted_free {o : Oper} (h : o.guard = none) (f : Nat → Option Bool) : Region.wanted o f = true := by
 unfold Region.wanted
 rw [h]
theorem YieldsD.wpOp {i : Nat} {o : Oper} {v : Value} {a : Act} (hi : ops[i]? = some o) (hy : YieldsD P ops S i o v a) {L : Array Bool} {w : World} (h1 : L.getD i true = false) (h2 : Down ops L) (h3 : S L w)
  {K : Act → World → Prop} (h : K (a.put o.dst v) w) : wpOp P ops Q i K a w := by
 unfold Go.wpOp
 simp only [hi, wanted_free hy.1, if_true]
 exact .inl ((hy.2 L w h1 h2 h3).wp h)
theorem wpOp_putD {i j : Nat} {oi oj : Oper} {v : Value} (hj : ops[j]? = some oj) (hap : oi.apart ops oj = true) (hgj : oj.guard = none)
  (hsi : ∀ cs b, oi.op ≠ .select cs b) (hsj : ∀ cs b, oj.op ≠ .select cs b)
  (hQ : ∀ c a w, Q (.panic c) (a.put oi.dst v) w → Q (.panic c) a w) {K : Act → World → Prop} {a : Act} {w : World}
  (hy : YieldsD P ops S i oi v a) (h : wpOp P ops Q j K (a.put oi.dst v) w) :
  wpOp P ops Q j (fun a' w' => YieldsD P ops S i oi v a' ∧ K (a'.put oi.dst v) w') a w := by
 obtain ⟨h1, h2, h3⟩ := Oper.apart_spec hap
 have same : ∀ {a a' : Act}, YieldsD P ops S i oi v a → execOp a'.eval oi = execOp a.eval oi → YieldsD P ops S i oi v a' := fun {a a'} hy he => ⟨hy.1, fun L w g1 g2 g3 => by
  have := hy.2 L w g1 g2 g3
  unfold RunsTo at *
  rw [he]
  exact this⟩
 have keep : ∀ (a : Act), YieldsD P ops S i oi v a → ∀ u, YieldsD P ops S i oi v (a.put oj.dst u) := fun a hy u => same hy (execOp_put oi hsi a oj.dst u h3)
 have keepD : ∀ d, YieldsD P ops S i oi v { a with defers := d :: a.defers } := fun d => same hy rfl
 unfold Go.wpOp at *
 simp only [hj, wanted_free hgj, if_true] at *
 rcases h with h | ⟨hasks, hlets⟩
 case inr => exact .inr ⟨by unfold Oper.asks at *; rw [execOp_put oj hsj a oi.dst v h1] at hasks; exact hasks, hlets⟩
 refine .inl ?_
 unfold Oper.wp at *
 rw [execOp_put oj hsj a oi.dst v h1] at h
 generalize (execOp a.eval oj).run P w = r at *
 cases r with
 | ok n w' =>
  cases n <;> simp only [Oper.upon] at h ⊢
  case value u => exact ⟨keep a hy u, by rw [← Act.put_comm a v u h2]; exact h⟩
  case skip => exact ⟨keep a hy _, by rw [← Act.put_comm a v undef h2]; exact h⟩
  case defer d =>
   refine ⟨keep _ (keepD d) _, ?_⟩
   rw [← Act.put_comm _ v undef h2, ← Act.put_defers]
   exact h
  case enter f args =>
   refine Calls.mono h fun e w'' he => ?_
   cases e with
   | returned u => exact ⟨keep a hy u, by rw [← Act.put_comm a v u h2]; exact he⟩
   | panicked c => exact hQ _ _ _ he
   | outgrown => exact he
  case row row args => exact Rows.mono h fun u w'' he => ⟨keep a hy u, by rw [← Act.put_comm a v u h2]; exact he⟩
 | halt x w' =>
  cases x <;> simp only [Oper.upon] at h ⊢
  case panic u => exact hQ _ _ _ h
def wpAnyD (P : Program) (ops : Array Oper) (Q : Exit → Act → World → Prop) (S : Array Bool → World → Prop) : Nat → Array Bool → Act → World → Prop
 | 0, listed, a, w => Region.ready .any ops listed = [] ∧ Q .normal a w
 | fuel + 1, listed, a, w =>
  (Region.ready .any ops listed = [] → Q .normal a w) ∧
  ∀ i ∈ Region.ready .any ops listed, wpOp P ops Q i (fun a' w' => S (listed.setIfInBounds i true) w' ∧ wpAnyD P ops Q S fuel (listed.setIfInBounds i true) a' w') a w
theorem wpAny_of_D : ∀ (fuel : Nat) (listed : Array Bool) (a : Act) (w : World), wpAnyD P ops Q S fuel listed a w → wpAny P .any ops Q fuel listed a w
 | 0, _, _, _, h => h
 | fuel + 1, _, _, _, h => ⟨h.1, fun i hi => wpOp_mono (fun a' w' h' => wpAny_of_D fuel _ a' w' h'.2) (h.2 i hi)⟩
theorem Down.set {listed : Array Bool} {j : Nat} (hd : Down ops listed) (hj : j ∈ Region.ready .any ops listed) : Down ops (listed.setIfInBounds j true) := by
 obtain ⟨_, q, hq, hdeps⟩ := mem_ready.1 hj
 have mono : ∀ k, listed.getD k false = true → (listed.setIfInBounds j true).getD k false = true := by
  intro k hk
  rw [Array.getD_eq_getD_getElem?] at hk ⊢
  rw [Array.getElem?_setIfInBounds]
  by_cases hjk : j = k
  ·subst hjk
   rw [if_pos rfl]
   cases hl : listed[j]? with
   | none => rw [hl] at hk; cases hk
   | some b => rw [if_pos (Array.getElem?_eq_some_iff.1 hl).1]; rfl
  ·rw [if_neg hjk]
   exact hk
 intro k p hp hk e he hb
 by_cases hjk : j = k
 ·subst hjk
  rw [hq] at hp
  obtain rfl := Option.some.inj hp
  exact mono _ (hdeps e he hb)
 ·refine mono _ (hd k p hp ?_ e he hb)
  rw [Array.getD_eq_getD_getElem?] at hk ⊢
  rwa [Array.getElem?_setIfInBounds_ne hjk] at hk
theorem wpAnyD_first {i : Nat} {oi : Oper} {v : Value} (hi : ops[i]? = some oi) (hsel : ∀ (j : Nat) (o : Oper) cs b, ops[j]? = some o → o.op ≠ .select cs b) (hg : ∀ (j : Nat) (o : Oper), ops[j]? = some o → o.guard = none)
  (hQ : ∀ c a w, Q (.panic c) (a.put oi.dst v) w → Q (.panic c) a w) (hSi : ∀ L w, S (L.setIfInBounds i true) w → S L w) (hSi' : ∀ L w, S L w → S (L.setIfInBounds i true) w) :
  ∀ (fuel : Nat) (listed : Array Bool) (a : Act) (w : World),
   (∀ j oj, ops[j]? = some oj → j ≠ i → listed.getD j true = false → (∀ e ∈ oj.after, Region.binds .any e = true → e.on ≠ i) → oi.apart ops oj = true) → Down ops listed →
   i ∈ Region.ready .any ops listed → YieldsD P ops S i oi v a → S listed w →
   wpAnyD P ops Q S fuel (listed.setIfInBounds i true) (a.put oi.dst v) w → wpAnyD P ops Q S (fuel + 1) listed a w := by
 intro fuel
 induction fuel with
 | zero =>
  intro listed a w _ hd hr hy hS H
  refine ⟨fun h => (by rw [h] at hr; cases hr), fun j hj => ?_⟩
  by_cases hji : j = i
  ·subst hji; exact hy.wpOp hi (mem_ready.1 hr).1 hd hS ⟨hSi' _ _ hS, H⟩
  ·have := ready_mono hj hji
   rw [H.1] at this
   cases this
 | succ fuel ih =>
  intro listed a w hfree hd hr hy hS H
  refine ⟨fun h => (by rw [h] at hr; cases hr), fun j hj => ?_⟩
  by_cases hji : j = i
  ·subst hji; exact hy.wpOp hi (mem_ready.1 hr).1 hd hS ⟨hSi' _ _ hS, H⟩
  ·have h1 := H.2 j (ready_mono hj hji)
   obtain ⟨hjun, oj, hoj, hall⟩ := mem_ready.1 hj
   have hnot : ∀ e ∈ oj.after, Region.binds .any e = true → e.on ≠ i := fun e he hb heq => by
    have h1 := hall e he hb
    have h0 := (mem_ready.1 hr).1
    rw [heq] at h1
    rcases Nat.lt_or_ge i listed.size with h' | h'
    ·simp [h'] at h0 h1; rw [h0] at h1; cases h1
    ·simp [Array.getElem?_eq_none h'] at h1
   have h2 := wpOp_putD hoj (hfree j oj hoj hji hjun hnot) (hg j oj hoj) (fun cs b => hsel i oi cs b hi) (fun cs b => hsel j oj cs b hoj) hQ hy h1
   have hfree' : ∀ k ok, ops[k]? = some ok → k ≠ i → (listed.setIfInBounds j true).getD k true = false →
     (∀ e ∈ ok.after, Region.binds .any e = true → e.on ≠ i) → oi.apart ops ok = true := fun k ok hk hki hun hno => by
    refine hfree k ok hk hki ?_ hno
    by_cases hjk : j = k
    ·subst hjk; exact hjun
    ·rw [getD_set_ne true hjk] at hun; exact hun
   refine wpOp_mono (fun a' w' h3 => ?_) h2
   have h4 := h3.2.1
   rw [Array.setIfInBounds_comm _ _ (Ne.symm hji)] at h4
   have h5 := hSi _ _ h4
   refine ⟨h5, ih (listed.setIfInBounds j true) a' w' hfree' (hd.set hj) (ready_mono hr (Ne.symm hji)) h3.1 h5 ?_⟩
   rw [Array.setIfInBounds_comm _ _ hji]
   exact h3.2.2
def downB (ops : Array Oper) (listed : Array Bool) : Bool := (List.range ops.size).all fun j => !listed.getD j false || (match ops[j]? with | some p => p.after.all (fun e : Edge => !Region.binds .any e || listed.getD e.on false) | none => true)
theorem downB_spec {listed : Array Bool} (h : downB ops listed = true) : Down ops listed := by
 intro j p hp hj e he hb
 have hlt : j < ops.size := (Array.getElem?_eq_some_iff.1 hp).1
 have := List.all_eq_true.1 h j (List.mem_range.2 hlt)
 rw [hj, hp] at this
 simp only [Bool.not_true, Bool.false_or] at this
 have := Array.all_eq_true_iff_forall_mem.1 this e he
 rw [hb] at this
 simpa using this
def noGuards (ops : Array Oper) : Bool := ops.all fun o => o.guard.isNone
theorem noGuards_spec (h : noGuards ops = true) (j : Nat) (o : Oper) (ho : ops[j]? = some o) : o.guard = none := by
 have := Array.all_eq_true_iff_forall_mem.1 h o (Array.mem_of_getElem? ho)
 simpa using this
theorem blocked {L : Array Bool} {i j : Nat} (hd : Down ops L) (hL : L.getD i true = false) (hj : opAwaits ops j i = true) : L.getD j false = false := by
 cases hb : L.getD j false with
 | false => rfl
 | true =>
  exfalso
  unfold opAwaits at hj
  cases ho : ops[j]? with
  | none => rw [ho] at hj; cases hj
  | some p =>
   rw [ho] at hj
   obtain ⟨e, he, hbn, rfl⟩ := awaits_spec hj
   have h1 := hd j p ho hb e he hbn
   rw [Array.getD_eq_getD_getElem?] at h1 hL
   cases hl : L[e.on]? with
   | none => rw [hl] at h1; cases h1
   | some b =>
    rw [hl] at h1 hL
    simp only [Option.getD_some] at h1 hL
    rw [h1] at hL
    cases hL
theorem wpAnyD_take {i : Nat} {oi : Oper} {v : Value} {fuel : Nat} {listed : Array Bool} {a : Act} {w : World} (hi : ops[i]? = some oi) (hs : Region.noSelect ops = true) (hg : noGuards ops = true) (hf : Region.free .any ops listed i = true) (hr : (Region.ready .any ops listed).contains i = true)
  (hQ : ∀ c a w, Q (.panic c) (a.put oi.dst v) w → Q (.panic c) a w) (hSi : ∀ L w, S (L.setIfInBounds i true) w ↔ S L w) (hd : downB ops listed = true) (hS : S listed w) (hy : YieldsD P ops S i oi v a)
  (h : S (listed.setIfInBounds i true) w → wpAnyD P ops Q S fuel (listed.setIfInBounds i true) (a.put oi.dst v) w) : wpAnyD P ops Q S (fuel + 1) listed a w :=
 wpAnyD_first hi (Region.noSelect_spec hs) (noGuards_spec hg) hQ (fun L w => (hSi L w).1) (fun L w => (hSi L w).2) fuel listed a w (Region.free_spec hi hf) (downB_spec hd) (by simpa using hr) hy hS (h ((hSi _ _).2 hS))
theorem wpAnyD_one {i : Nat} {o : Oper} {fuel : Nat} {listed : Array Bool} {a : Act} {w : World} (hr : Region.ready .any ops listed = [i]) (ho : ops[i]? = some o) (hg : noGuards ops = true)
  (h : ∀ K : Act → World → Prop, Shut (∀ a w, S (listed.setIfInBounds i true) w → (S (listed.setIfInBounds i true) w → wpAnyD P ops Q S fuel (listed.setIfInBounds i true) a w) → K a w) → Oper.wp P o a w K Q) : wpAnyD P ops Q S (fuel + 1) listed a w := by
 refine ⟨fun h0 => (by rw [hr] at h0; cases h0), fun j hj => ?_⟩
 rw [hr] at hj
 obtain rfl := List.mem_singleton.1 hj
 unfold wpOp
 simp only [ho, wanted_free (noGuards_spec hg _ o ho), if_true]
 exact .inl (h _ (fun a w h1 h2 => ⟨h1, h2 h1⟩))
theorem wpAnyD_done {listed : Array Bool} {a : Act} {w : World} (hr : Region.ready .any ops listed = []) (h : Q .normal a w) : ∀ fuel, wpAnyD P ops Q S fuel listed a w
 | 0 => ⟨hr, h⟩
 | _ + 1 => ⟨fun _ => h, by rw [hr]; simp⟩
theorem wp_region_D {id : Nat} {a : Act} {w : World} (hm : P.follows .mixedOrders = true) (hS : S (Array.replicate ops.size false) w.drew)
  (h : S (Array.replicate ops.size false) w.drew → wpAnyD P ops Q S ops.size (Array.replicate ops.size false) a w.drew) : (Code.region id ops true).wp P Q a w :=
 wp_region_any hm (wpAny_of_D _ _ _ _ (h hS))
end
theorem bound_of (r : Pl → Nat) (N : Nat) : ∀ E : List (Pl × Pl), ∃ R, N ≤ R ∧ ∀ e ∈ E, r e.2 ≤ R
 | [] => ⟨N, Nat.le_refl _, fun _ h => by cases h⟩
 | e :: E => by
  obtain ⟨R, h1, h2⟩ := bound_of r N E
  refine ⟨R + r e.2, by omega, fun f hf => ?_⟩
  rcases List.mem_cons.1 hf with rfl | hf
  ·omega
  ·have := h2 f hf; omega
theorem set_ne6 (L : Array Bool) (i : Nat) (h : i ≠ 6) : (L.setIfInBounds i true).getD 6 false = L.getD 6 false := by
 rw [Array.getD_eq_getD_getElem?, Array.getElem?_setIfInBounds_ne h, ← Array.getD_eq_getD_getElem?]
theorem set_ne7 (L : Array Bool) (i : Nat) (h : i ≠ 7) : (L.setIfInBounds i true).getD 7 false = L.getD 7 false := by
 rw [Array.getD_eq_getD_getElem?, Array.getElem?_setIfInBounds_ne h, ← Array.getD_eq_getD_getElem?]
end Go.Proofs.YtlpgphiccjkenaaGreatDoor
