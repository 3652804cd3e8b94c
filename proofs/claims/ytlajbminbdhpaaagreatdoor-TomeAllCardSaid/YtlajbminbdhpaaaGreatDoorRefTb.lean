/-
 Contracts of the program, and what they rest on.
-/
import Derived.BigQuiet
import Derived.Test.YtlajbminbdhpaaaGreatDoorRefDa
set_option maxRecDepth 100000
set_option maxHeartbeats 16000000
namespace Go.Proofs.YtlajbminbdhpaaaGreatDoor
open Go.RowKit
theorem rise_cons (b : Int) (x : Ve) (r : List Ve) : riseV b (x :: r) = (decide (b < x.ver) && decide (x.ver ≤ 1099511627776) && pureV x && riseV x.ver r) := rfl
theorem pureV_big {v : Int} {g : Bool} {b : ByteArray} (h : 300 < b.size) : pureV ⟨v, g, b⟩ = false := by
 cases g with
 | false => exact decide_eq_false (show ¬ b.size ≤ 300 by omega)
 | true => exact decide_eq_false (show ¬ b.size = 0 by omega)
theorem pureV_gone {v : Int} {b : ByteArray} (h : ¬ b.size = 0) : pureV ⟨v, true, b⟩ = false := decide_eq_false h
theorem pureV_there {v : Int} {b : ByteArray} (h : b.size ≤ 300) : pureV ⟨v, false, b⟩ = true := decide_eq_true h
theorem below_drewN {B : Nat} {w w' : World} (h : Below B w w') (n : Nat) : Below B w (w'.drewN n) := h.trans ⟨rfl, rfl, rfl, Nat.le_refl _, fun _ _ => rfl⟩
theorem rmaye_p (key : ByteArray) (v : Value) (l : List Ve) (w : World) (h : VsAt w v l) (hn : l.length ≤ 1000000) (hks : key.size ≤ 1000000) :
  Calls Tryz.prog 16 #[.agg #[.string key, v]] w fun e w' => e = .returned (.bool (mayE key l)) ∧ Below w.heap.size w w' := by
 obtain ⟨ad, cap, rfl, _⟩ := h.shape
 have hb : Below w.heap.size w (w.alloc (.cells #[.string key, .slice ad l.length cap] 24)) := (Below.refl _ w).alloc (Nat.le_refl _) _
 have HB := Lib.hid hb
 have h1 := EC.new w key ad l.length cap 24
 have HV := Lib.hid (h.below hb)
 have HK := Lib.hid (rkey_p key hks)
 have HM : Hid ((riseV 0 l = false → mayE key l = false) ∧ (riseV 0 l = true → mayE key l = (keyB key && decide (1 ≤ l.length) && decide (l.length ≤ 12)))) := Lib.hid ⟨fun e => by unfold mayE; rw [e, Bool.and_false], fun e => by unfold mayE; rw [e, Bool.and_true]⟩
 generalize keyB key = kb at *
 obtain ⟨R, hR⟩ : ∃ R, mayE key l = R := ⟨_, rfl⟩
 rw [hR] at HM ⊢
 clear h hb hR
 go_enter Tryz.func16, Tryz.ntmps16
 go_wp2_with fail
 generalize w.alloc (.cells #[.string key, .slice ad l.length cap] 24) = W at *
 obtain ⟨⟨c0, c1⟩, _⟩ := h1
 go_loopw [3] (fun i wr => ∃ (k : Nat) (b : Int), k ≤ l.length ∧ i = .int .i64 k ∧ wr.cell? ⟨w.heap.size, 0, none⟩ = some (.string key) ∧ wr.cell? ⟨w.heap.size, 1, none⟩ = some (.slice ad l.length cap) ∧ Hid (VsAt wr (.slice ad l.length cap) l) ∧ Hid (Below w.heap.size w wr) ∧ Hid (riseV 0 l = riseV b (l.drop k)) ∧ Hid (0 ≤ b ∧ (k = 0 → b = 0) ∧ (∀ k', k = k' + 1 → ∃ p, l[k']? = some p ∧ p.ver = b ∧ 1 ≤ b))) (fun i _ => l.length - (intOf i).toNat)
 case atStart => exact ⟨0, 0, Nat.zero_le _, rfl, c0, c1, HV, HB, Lib.hid rfl, Lib.hid ⟨Int.le_refl _, fun _ => rfl, fun k' e => by omega⟩⟩
 case round =>
  obtain ⟨k, b, hk, rfl, c0, c1, HV, HBW, HI, HP⟩ := hrel
  by_cases hlt : k < l.length
  ·have hltz : (k : Int) < (l.length : Int) := by omega
   obtain ⟨x, hx⟩ : ∃ x, l[k]? = some x := ⟨_, List.getElem?_eq_getElem hlt⟩
   have hdrop : l.drop k = x :: l.drop (k + 1) := by
    rw [List.drop_eq_getElem_cons hlt]
    congr 1
    rw [List.getElem?_eq_getElem hlt] at hx
    exact Option.some.inj hx
   have hI := HI.out
   rw [hdrop, rise_cons] at hI
   have hf : Hid ((¬ b < x.ver ∨ ¬ x.ver ≤ 1099511627776 ∨ pureV x = false) → R = false) := Lib.hid (fun e => HM.out.1 (by
    rw [hI]
    rcases e with e | e | e
    ·rw [decide_eq_false e]; simp
    ·rw [decide_eq_false e]; simp
    ·rw [e]; simp))
   have ht : Hid (b < x.ver → x.ver ≤ 1099511627776 → pureV x = true → riseV 0 l = riseV x.ver (l.drop (k + 1))) := Lib.hid (fun e1 e2 e3 => by
    rw [hI, decide_eq_true e1, decide_eq_true e2, e3]; simp)
   obtain ⟨g, o, rfl, x0, x1, x2, hg⟩ := HV.out.get hx
   have HX := Lib.hid hx
   have hP := HP.out
   obtain ⟨xv, xg, xb⟩ := x
   dsimp only at x0 x1 x2 hf ht
   have hgne : g ≠ wr.heap.size := by omega
   have hBw : w.heap.size < wr.heap.size := World.block_lt_of_cell? wr _ c0
   have hne0 : w.heap.size ≠ wr.heap.size := by omega
   clear hx hdrop hI HP HI
   by_cases t1 : xv < 1
   ·obtain rfl := hf.out (.inl (by omega))
    have hPB := Lib.hid hP
    clear hP
    go_wp2_with fail
    go_quiet (fail)
    go_wp2_with fail
    go_ret
    exact ⟨rfl, below_drewN (HBW.out.alloc HBW.out.size _) _⟩
   have n1 : decide (xv < 1) = false := decide_eq_false t1
   by_cases t2 : 1099511627776 < xv
   ·obtain rfl := hf.out (.inr (.inl (by omega)))
    clear hP
    go_wp2_with fail
    go_quiet (fail)
    go_wp2_with fail
    go_ret
    exact ⟨rfl, below_drewN (HBW.out.alloc HBW.out.size _) _⟩
   have n2 : decide (1099511627776 < xv) = false := decide_eq_false t2
   cases k with
   | zero =>
    have hb0 : b = 0 := hP.2.1 rfl
    have hlt1 : b < xv := by omega
    rw [Nat.zero_mul, Nat.add_zero] at x0 x1 x2
    clear hP
    by_cases t5 : 300 < xb.size
    ·have t5z : (300 : Int) < (xb.size : Int) := by omega
     obtain rfl := hf.out (.inr (.inr (pureV_big (by omega))))
     go_wp2_with fail
     go_quiet (fail)
     go_wp2_with fail
     go_ret
     exact ⟨rfl, below_drewN (HBW.out.alloc HBW.out.size _) _⟩
    have n5 : decide ((300 : Int) < (xb.size : Int)) = false := decide_eq_false (by omega)
    cases xg with
    | true =>
     by_cases t6 : xb.size = 0
     ·obtain rfl := ba_size0 t6
      have hnx := ht.out hlt1 (by omega) rfl
      go_wp2_with fail
      go_quiet (fail)
      go_wp2_with fail
      have hBn : Below wr.heap.size wr ((wr.alloc (.cells #[.int .i64 xv, .bool true, .string ⟨#[]⟩] 26)).drewN nq) := below_drewN ((Below.refl _ _).alloc (Nat.le_refl _) _) _
      have k0 : ((wr.alloc (.cells #[.int .i64 xv, .bool true, .string ⟨#[]⟩] 26)).drewN nq).cell? ⟨w.heap.size, 0, none⟩ = some (.string key) := by rw [hBn.cell hBw]; exact c0
      have k1 : ((wr.alloc (.cells #[.int .i64 xv, .bool true, .string ⟨#[]⟩] 26)).drewN nq).cell? ⟨w.heap.size, 1, none⟩ = some (.slice (some ⟨g, o, none⟩) l.length cap) := by rw [hBn.cell hBw]; exact c1
      go_roundw
      case rel =>
       refine ⟨_ + 1, xv, by omega, by go_num, k0, k1, Lib.hid (HV.out.below hBn), Lib.hid (HBW.out.trans (hBn.mono HBW.out.size)), Lib.hid hnx, Lib.hid ⟨by omega, fun e => by omega, fun k'' e => ⟨⟨xv, true, ⟨#[]⟩⟩, ?_, rfl, by omega⟩⟩⟩
       have e2 : k'' = 0 := by omega
       rw [e2]
       exact HX.out
      case measure => simp [intOf]; omega
     ·have t6n := ba_isEmpty t6
      obtain rfl := hf.out (.inr (.inr (pureV_gone t6)))
      go_wp2_with fail
      go_quiet (fail)
      go_wp2_with fail
      go_ret
      exact ⟨rfl, below_drewN (HBW.out.alloc HBW.out.size _) _⟩
    | false =>
     have hnx := ht.out hlt1 (by omega) (pureV_there (by omega))
     go_wp2_with fail
     go_quiet (fail)
     go_wp2_with fail
     have hBn : Below wr.heap.size wr ((wr.alloc (.cells #[.int .i64 xv, .bool false, .string xb] 26)).drewN nq) := below_drewN ((Below.refl _ _).alloc (Nat.le_refl _) _) _
     have k0 : ((wr.alloc (.cells #[.int .i64 xv, .bool false, .string xb] 26)).drewN nq).cell? ⟨w.heap.size, 0, none⟩ = some (.string key) := by rw [hBn.cell hBw]; exact c0
     have k1 : ((wr.alloc (.cells #[.int .i64 xv, .bool false, .string xb] 26)).drewN nq).cell? ⟨w.heap.size, 1, none⟩ = some (.slice (some ⟨g, o, none⟩) l.length cap) := by rw [hBn.cell hBw]; exact c1
     go_roundw
     case rel =>
      refine ⟨_ + 1, xv, by omega, by go_num, k0, k1, Lib.hid (HV.out.below hBn), Lib.hid (HBW.out.trans (hBn.mono HBW.out.size)), Lib.hid hnx, Lib.hid ⟨by omega, fun e => by omega, fun k'' e => ⟨⟨xv, false, xb⟩, ?_, rfl, by omega⟩⟩⟩
      have e2 : k'' = 0 := by omega
      rw [e2]
      exact HX.out
     case measure => simp [intOf]; omega
   | succ k' =>
    obtain ⟨p, hp, hpv, hb1⟩ := hP.2.2 k' rfl
    obtain ⟨g2, o2, hge, p0, _, _, _⟩ := HV.out.get hp
    obtain ⟨rfl, rfl⟩ : g = g2 ∧ o = o2 := by simpa using hge
    rw [hpv] at p0
    clear hp hpv hge hP
    have hk0 : (0 : Int) < (k' : Int) + 1 := by omega
    by_cases t4 : xv ≤ b
    ·obtain rfl := hf.out (.inl (by omega))
     go_wp2_with fail
     go_quiet (fail)
     go_wp2_with fail
     go_ret
     exact ⟨rfl, below_drewN (HBW.out.alloc HBW.out.size _) _⟩
    have n4 : decide (xv ≤ b) = false := decide_eq_false t4
    have hlt1 : b < xv := by omega
    by_cases t5 : 300 < xb.size
    ·have t5z : (300 : Int) < (xb.size : Int) := by omega
     obtain rfl := hf.out (.inr (.inr (pureV_big (by omega))))
     go_wp2_with fail
     go_quiet (fail)
     go_wp2_with fail
     go_ret
     exact ⟨rfl, below_drewN (HBW.out.alloc HBW.out.size _) _⟩
    have n5 : decide ((300 : Int) < (xb.size : Int)) = false := decide_eq_false (by omega)
    cases xg with
    | true =>
     by_cases t6 : xb.size = 0
     ·obtain rfl := ba_size0 t6
      have hnx := ht.out hlt1 (by omega) rfl
      go_wp2_with fail
      go_quiet (fail)
      go_wp2_with fail
      have hBn : Below wr.heap.size wr ((wr.alloc (.cells #[.int .i64 xv, .bool true, .string ⟨#[]⟩] 26)).drewN nq) := below_drewN ((Below.refl _ _).alloc (Nat.le_refl _) _) _
      have k0 : ((wr.alloc (.cells #[.int .i64 xv, .bool true, .string ⟨#[]⟩] 26)).drewN nq).cell? ⟨w.heap.size, 0, none⟩ = some (.string key) := by rw [hBn.cell hBw]; exact c0
      have k1 : ((wr.alloc (.cells #[.int .i64 xv, .bool true, .string ⟨#[]⟩] 26)).drewN nq).cell? ⟨w.heap.size, 1, none⟩ = some (.slice (some ⟨g, o, none⟩) l.length cap) := by rw [hBn.cell hBw]; exact c1
      go_roundw
      case rel =>
       refine ⟨_ + 1, xv, by omega, by go_num, k0, k1, Lib.hid (HV.out.below hBn), Lib.hid (HBW.out.trans (hBn.mono HBW.out.size)), Lib.hid hnx, Lib.hid ⟨by omega, fun e => by omega, fun k'' e => ⟨⟨xv, true, ⟨#[]⟩⟩, ?_, rfl, by omega⟩⟩⟩
       have e2 : k'' = k' + 1 := by omega
       rw [e2]
       exact HX.out
      case measure => simp [intOf]; omega
     ·have t6n := ba_isEmpty t6
      obtain rfl := hf.out (.inr (.inr (pureV_gone t6)))
      go_wp2_with fail
      go_quiet (fail)
      go_wp2_with fail
      go_ret
      exact ⟨rfl, below_drewN (HBW.out.alloc HBW.out.size _) _⟩
    | false =>
     have hnx := ht.out hlt1 (by omega) (pureV_there (by omega))
     go_wp2_with fail
     go_quiet (fail)
     go_wp2_with fail
     have hBn : Below wr.heap.size wr ((wr.alloc (.cells #[.int .i64 xv, .bool false, .string xb] 26)).drewN nq) := below_drewN ((Below.refl _ _).alloc (Nat.le_refl _) _) _
     have k0 : ((wr.alloc (.cells #[.int .i64 xv, .bool false, .string xb] 26)).drewN nq).cell? ⟨w.heap.size, 0, none⟩ = some (.string key) := by rw [hBn.cell hBw]; exact c0
     have k1 : ((wr.alloc (.cells #[.int .i64 xv, .bool false, .string xb] 26)).drewN nq).cell? ⟨w.heap.size, 1, none⟩ = some (.slice (some ⟨g, o, none⟩) l.length cap) := by rw [hBn.cell hBw]; exact c1
     go_roundw
     case rel =>
      refine ⟨_ + 1, xv, by omega, by go_num, k0, k1, Lib.hid (HV.out.below hBn), Lib.hid (HBW.out.trans (hBn.mono HBW.out.size)), Lib.hid hnx, Lib.hid ⟨by omega, fun e => by omega, fun k'' e => ⟨⟨xv, false, xb⟩, ?_, rfl, by omega⟩⟩⟩
      have e2 : k'' = k' + 1 := by omega
      rw [e2]
      exact HX.out
     case measure => simp [intOf]; omega
  ·have hltz : ¬ (k : Int) < (l.length : Int) := by omega
   have hI := HI.out
   rw [List.drop_eq_nil_of_le (by omega)] at hI
   have hR := HM.out.2 hI
   clear hI HI HP HM
   have HR := Lib.hid hR
   clear hR
   go_wp2_with fail
   refine (HK.out _).mono ?_
   rintro _ _ ⟨rfl, rfl⟩
   cases kb with
   | false =>
    obtain rfl : R = false := by rw [HR.out]; rfl
    go_wp2_with fail
    go_ret
    exact ⟨rfl, HBW.out⟩
   | true =>
    by_cases h1 : 1 ≤ l.length
    ·have h1z : (1 : Int) ≤ (l.length : Int) := by omega
     by_cases h12 : l.length ≤ 12
     ·have h12z : (l.length : Int) ≤ 12 := by omega
      obtain rfl : R = true := by rw [HR.out, decide_eq_true h1, decide_eq_true h12]; rfl
      go_wp2_with fail
      go_ret
      exact ⟨rfl, HBW.out⟩
     ·have h12z : decide ((l.length : Int) ≤ 12) = false := decide_eq_false (by omega)
      obtain rfl : R = false := by rw [HR.out, decide_eq_false h12, Bool.and_false]
      go_wp2_with fail
      go_ret
      exact ⟨rfl, HBW.out⟩
    ·have h1z : decide ((1 : Int) ≤ (l.length : Int)) = false := decide_eq_false (by omega)
     obtain rfl : R = false := by rw [HR.out, decide_eq_false h1]; rfl
     go_wp2_with fail
     go_ret
     exact ⟨rfl, HBW.out⟩
end Go.Proofs.YtlajbminbdhpaaaGreatDoor
