/-
 Contracts of the program, and what they rest on.
-/
import Derived.Test.YtlpgphiccjkenaaGreatDoorM16
import Derived.Test.YtlpgphiccjkenaaGreatDoorM11
import Derived.Test.YtlpgphiccjkenaaGreatDoorM12
set_option maxRecDepth 100000
set_option maxHeartbeats 16000000
namespace Go.Proofs.YtlpgphiccjkenaaGreatDoor
open Go.RowKit
def fgone (h low : Int) (m : Me) : Bool := decide (homeP m.req = h) && decide (m.req < low)
theorem fgt1_p (h low : Int) (P Q : Nat) (m : Me) (h0 : -9223372036854775808 ≤ m.req) (h1 : m.req ≤ 9223372036854775807) (W : World) (hP : P < W.heap.size) (hQ : Q < W.heap.size) (cP : W.cell? ⟨P, 0, none⟩ = some (.int .i64 h)) (cQ : W.cell? ⟨Q, 0, none⟩ = some (.int .i64 low)) :
  Calls Tryz.prog 74 #[.agg #[.int .i64 m.req, .int .i64 m.res.err, .int .i64 m.res.ver], .pointer (some ⟨P, 0, none⟩), .pointer (some ⟨Q, 0, none⟩)] W fun e w' => e = .returned (.bool (fgone h low m)) ∧ Below W.heap.size W w' := by
 have HH := Lib.hid (fun W => home_p m.req h0 h1 W)
 have hnP : P ≠ W.heap.size := by omega
 have hnP' : W.heap.size ≠ P := by omega
 have hnQ : Q ≠ W.heap.size := by omega
 have hnQ' : W.heap.size ≠ Q := by omega
 have HB := Lib.hid ((Below.refl W.heap.size W).alloc (Nat.le_refl _) (.cells #[.int .i64 m.req, .int .i64 m.res.err, .int .i64 m.res.ver] 76))
 unfold fgone
 by_cases hh : homeP m.req = h
 ·have hb : (homeP m.req == h) = true := by rw [beq_iff_eq]; exact hh
  rw [decide_eq_true hh, Bool.true_and]
  generalize homeP m.req = H at *
  clear hh
  by_cases hl : m.req < low
  ·rw [decide_eq_true hl]
   go_enter Tryz.func74, Tryz.ntmps74
   go_wp2_with fail
   go_quiet ((go_at_call 26; exact Calls.quiet_of_same ((HH.out _).mono fun _ _ ⟨a, b⟩ => ⟨a, b.symm⟩)))
   go_wp2_with fail
   go_ret
   exact ⟨rfl, HB.out.os, HB.out.tape, HB.out.output, HB.out.size, HB.out.block⟩
  ·have hlf : decide (m.req < low) = false := decide_eq_false hl
   rw [hlf]
   clear hl
   go_enter Tryz.func74, Tryz.ntmps74
   go_wp2_with fail
   go_quiet ((go_at_call 26; exact Calls.quiet_of_same ((HH.out _).mono fun _ _ ⟨a, b⟩ => ⟨a, b.symm⟩)))
   go_wp2_with fail
   go_ret
   exact ⟨rfl, HB.out.os, HB.out.tape, HB.out.output, HB.out.size, HB.out.block⟩
 ·have hb : (homeP m.req == h) = false := by rw [beq_eq_false_iff_ne]; exact hh
  rw [decide_eq_false hh, Bool.false_and]
  generalize homeP m.req = H at *
  clear hh
  go_enter Tryz.func74, Tryz.ntmps74
  go_wp2_with fail
  go_quiet ((go_at_call 26; exact Calls.quiet_of_same ((HH.out _).mono fun _ _ ⟨a, b⟩ => ⟨a, b.symm⟩)))
  go_wp2_with fail
  go_ret
  exact ⟨rfl, HB.out.os, HB.out.tape, HB.out.output, HB.out.size, HB.out.block⟩
structure Caps (W : World) (h low : Int) (P Q : Nat) : Prop where
 p : P < W.heap.size
 q : Q < W.heap.size
 cp : W.cell? ⟨P, 0, none⟩ = some (.int .i64 h)
 cq : W.cell? ⟨Q, 0, none⟩ = some (.int .i64 low)
theorem Caps.below {W W' : World} {h low : Int} {P Q : Nat} (c : Caps W h low P Q) (hb : Below W.heap.size W W') : Caps W' h low P Q :=
 ⟨Nat.lt_of_lt_of_le c.p hb.size, Nat.lt_of_lt_of_le c.q hb.size, (hb.cell (p := ⟨P, 0, none⟩) c.p).trans c.cp, (hb.cell (p := ⟨Q, 0, none⟩) c.q).trans c.cq⟩
def FirstG (h low : Int) (l : List Me) (r : Int) : Prop :=
 (r = -1 ∧ ∀ x ∈ l, fgone h low x = false) ∨ ∃ k : Nat, r = k ∧ k < l.length ∧ (∀ x, l[k]? = some x → fgone h low x = true) ∧ ∀ j x, j < k → l[j]? = some x → fgone h low x = false
theorem mindex_p (v : Value) (l : List Me) (h low : Int) (P Q : Nat) (w : World) (hm : MsAt w v l) (hn : l.length ≤ 1000000) (hr : ∀ m ∈ l, -9223372036854775808 ≤ m.req ∧ m.req ≤ 9223372036854775807) (hc : Caps w h low P Q) :
  Calls Tryz.prog 129 #[v, .func (.func 74) #[] #[.pointer (some ⟨P, 0, none⟩), .pointer (some ⟨Q, 0, none⟩)]] w fun e w' => (∃ r, e = .returned (.int .i64 r) ∧ FirstG h low l r) ∧ Below w.heap.size w w' := by
 have eg : ∀ args w, (callFunc 74 args).run Tryz.prog w = .ok (.enter 74 args) w := enters_of Tryz.func74 (by kernel_rfl) rfl
 have HP := Lib.hid (fun (m : Me) (hx : m ∈ l) W (hW : Below w.heap.size w W) => fgt1_p h low P Q m (hr m hx).1 (hr m hx).2 W (hc.below hW).p (hc.below hW).q (hc.below hW).cp (hc.below hW).cq)
 have HV := Lib.hid hm
 obtain ⟨ad, cap, rfl, hcap⟩ := hm.shape
 clear hm hr hc
 go_enter Tryz.func129, Tryz.ntmps129
 go_wp2
 go_loopg [5, 8] l.length (fun gg _ s8 wr => ∃ kk : Nat, kk ≤ l.length ∧ l.length - kk ≤ gg ∧ s8 = .int .i64 kk ∧ Hid (Below w.heap.size w wr) ∧ Hid (∀ j x, j < kk → l[j]? = some x → fgone h low x = false))
 case atStart => exact ⟨0, Nat.zero_le _, by omega, rfl, Lib.hid (Below.refl _ _), Lib.hid (fun j y hj => absurd hj (Nat.not_lt_zero _))⟩
 case round =>
  obtain ⟨kk, hkk, hg, rfl, BW, A⟩ := hrel
  by_cases hlt : kk < l.length
  ·have hltz : (kk : Int) < (l.length : Int) := by omega
   obtain ⟨x, hx⟩ : ∃ x, l[kk]? = some x := ⟨_, List.getElem?_eq_getElem hlt⟩
   obtain ⟨g, o, rfl, c0, c1, c2, _⟩ := (HV.out.below BW.out).get hx
   have HX := Lib.hid hx
   have HC := Lib.hid (HP.out x (List.mem_of_getElem? hx) wr BW.out)
   clear hx
   cases hq : fgone h low x with
   | true =>
    rw [hq] at HC
    have HF : Hid (FirstG h low l (kk : Int)) := Lib.hid (.inr ⟨kk, rfl, hlt, fun y hy => by rw [HX.out] at hy; cases hy; exact hq, A.out⟩)
    clear hq
    go_wp2_with fail
    refine HC.out.mono ?_
    rintro _ w' ⟨rfl, hb'⟩
    have HB' := Lib.hid (BW.out.trans (hb'.mono BW.out.size))
    clear hb'
    go_wp2_with fail
    go_ret
    exact ⟨⟨_, rfl, HF.out⟩, HB'.out⟩
   | false =>
    rw [hq] at HC
    have HN : Hid (∀ j y, j < kk + 1 → l[j]? = some y → fgone h low y = false) := Lib.hid (fun j y hj hy => by
     by_cases e : j = kk
     ·subst e
      rw [HX.out] at hy
      cases hy
      exact hq
     ·exact A.out j y (by omega) hy)
    clear hq
    go_wp2_with fail
    refine HC.out.mono ?_
    rintro _ w' ⟨rfl, hb'⟩
    have HB' := Lib.hid (BW.out.trans (hb'.mono BW.out.size))
    clear hb'
    go_wp2_with fail
    go_roundg (l.length - (kk + 1))
    case measure => omega
    case rel => exact ⟨kk + 1, by omega, by omega, by go_num, HB', HN⟩
  ·have hltz : ¬ (kk : Int) < (l.length : Int) := by omega
   have HF : Hid (FirstG h low l (-1)) := Lib.hid (.inl ⟨rfl, fun x hx => by
    obtain ⟨j, hj, rfl⟩ := List.getElem_of_mem hx
    exact A.out j _ (by omega) (List.getElem?_eq_getElem hj)⟩)
   go_wp2
   go_ret
   exact ⟨⟨_, rfl, HF.out⟩, BW.out⟩
end Go.Proofs.YtlpgphiccjkenaaGreatDoor
