/-
  The contracts of gauss.Pow, gauss.On and gauss.Mark.
-/
import Derived.Test.YtgjnllkbfjeihaaDoorGauss1
import Derived.Test.YtgjnllkbfjeihaaDoorMath
import Derived.LoopTactic
namespace Go.Proofs.YtgjnllkbfjeihaaDoor
open Go.RowKit Go.Proofs.Flo Go.Proofs.Cpl

def gc (p : Int × Int) : Value := .complex .f64 (fk 0 p.1) (fk 0 p.2)

theorem mul_gc (p q : Int × Int) (hp : Ok p) (hq : Ok q) (w : World) :
    Calls Tryd.prog 14 #[.complex .f64 (fk 0 p.1) (fk 0 p.2), .complex .f64 (fk 0 q.1) (fk 0 q.2)] w fun e w' => e = .returned (.complex .f64 (fk 0 (gmul p q).1) (fk 0 (gmul p q).2)) ∧ w = w' :=
  mul_gz p.1 p.2 q.1 q.2 hp.1 hp.2 hq.1 hq.2 w

theorem add_gc (p q : Int × Int) (hp : Ok p) (hq : Ok q) (w : World) :
    Calls Tryd.prog 41 #[.complex .f64 (fk 0 p.1) (fk 0 p.2), .complex .f64 (fk 0 q.1) (fk 0 q.2)] w fun e w' => e = .returned (.complex .f64 (fk 0 (gadd p q).1) (fk 0 (gadd p q).2)) ∧ w = w' :=
  add_gz p.1 p.2 q.1 q.2 hp.1 hp.2 hq.1 hq.2 w

theorem may_gc (p : Int × Int) (hp : Ok p) (w : World) :
    Calls Tryd.prog 24 #[.complex .f64 (fk 0 p.1) (fk 0 p.2)] w fun e w' => e = .returned (.bool true) ∧ w = w' :=
  may_gz p.1 p.2 hp.1 hp.2 w

theorem fk_one : fk 0 1 = 4607182418800017408 := by decide
theorem fk_three : fk 0 3 = 4613937818241073152 := by decide
theorem fk_five : fk 0 5 = 4617315517961601024 := by decide

/-- What a round of the loop keeps. -/
def PowRel (p : Int × Int) (n : Nat) (a m t : Value) : Prop :=
  ∃ (k : Nat) (x y : Int × Int), k ≤ n ∧ a = gc x ∧ m = .int .i64 k ∧ t = gc y ∧ Ok x ∧ Ok y ∧ gmul y (gpow x k) = gpow p n

/-- A slice of bytes in memory. -/
def BytesAt (w : World) (b off : Nat) (l : List UInt8) : Prop := ∀ i (h : i < l.length), w.cell? ⟨b, off + i, none⟩ = some (.int .u8 (l[i].toNat : Int))

theorem mul35 (p : Int × Int) (hp : Ok p) (w : World) :
    Calls Tryd.prog 14 #[.complex .f64 (fk 0 p.1) (fk 0 p.2), .complex .f64 4613937818241073152 4617315517961601024] w fun e w' => e = .returned (.complex .f64 (fk 0 (gmul p (3, 5)).1) (fk 0 (gmul p (3, 5)).2)) ∧ w = w' := by
  have h := mul_gc p (3, 5) hp (by unfold Ok; decide) w
  simp only [fk_three, fk_five] at h
  exact h

theorem add_byte (p : Int × Int) (n : Int) (hp : Ok p) (h0 : 0 ≤ n) (h1 : n ≤ 65520) (w : World) :
    Calls Tryd.prog 41 #[.complex .f64 (fk 0 p.1) (fk 0 p.2), .complex .f64 (fk 0 n) 0] w fun e w' => e = .returned (.complex .f64 (fk 0 (gadd p (n, 0)).1) (fk 0 (gadd p (n, 0)).2)) ∧ w = w' := by
  have h := add_gc p (n, 0) hp ⟨⟨h0, h1⟩, ⟨by simp, by simp⟩⟩ w
  simp only [fk_zero] at h
  exact h

theorem list_take_snoc (l : List UInt8) (k : Nat) (h : k < l.length) : l.take (k + 1) = l.take k ++ [l[k]] := by
  rw [List.take_succ_eq_append_getElem h]

set_option maxRecDepth 100000 in
set_option maxHeartbeats 400000 in
theorem on_gc (z : Int × Int) (b off cap : Nat) (l : List UInt8) (hz : Ok z) (hl : l.length ≤ maxLen) (w : World) (hc : BytesAt w b off l) :
    Calls Tryd.prog 28 #[.complex .f64 (fk 0 z.1) (fk 0 z.2), .slice (some ⟨b, off, none⟩) l.length cap] w fun e w' => e = .returned (gc (gon z l)) ∧ w = w' := by
  unfold maxLen at hl
  have HC := Lib.hid hc
  clear hc
  go_enter Tryd.func28, Tryd.ntmps28
  go_wp2_with fail
  refine (may_gc z hz _).mono ?_
  rintro e w' ⟨rfl, rfl⟩
  go_wp2_with fail
  go_loop [0, 12] (fun a i => ∃ k : Nat, k ≤ l.length ∧ i = .int .i64 k ∧ a = gc (gon z (l.take k))) (fun _ i => l.length - (intOf i).toNat)
  case atStart => exact ⟨0, Nat.zero_le _, rfl, rfl⟩
  case round =>
    obtain ⟨k, hk, rfl, rfl⟩ := hrel
    by_cases hlt : k < l.length
    · have hok := ok_gon hz (l.take k)
      have hsn := Lib.hid (gon_snoc z (l.take k) l[k])
      have hts := Lib.hid (list_take_snoc l k hlt)
      have hu := l[k].toNat_lt
      have hcell := HC.out k hlt
      generalize hg : gon z (l.take k) = g at *
      have HG := Lib.hid hg
      clear hg
      generalize l[k] = c at *
      have hlt' : (k : Int) < (l.length : Int) := by omega
      have q1 : floatOfInt .f64 (c.toNat : Int) = fk 0 (c.toNat : Int) := floatOfInt_eq _ (by omega)
      have q2 := fun t w => run_float_arith (P := Tryd.prog) w .add t .f64 (fk 0 (c.toNat : Int)) 4607182418800017408 (fk 0 ((c.toNat : Int) + 1)) (by
        rw [← fk_one]
        exact add_fk 0 _ _ (by omega) (by omega) (by omega) (by omega))
      unfold gc
      go_wp2_with fail
      refine (mul35 g hok _).mono ?_
      rintro e w' ⟨rfl, rfl⟩
      go_wp2_with fail
      refine (add_byte (gmul g (3, 5)) _ (ok_gmul _ _) (by omega) (by omega) _).mono ?_
      rintro e w' ⟨rfl, rfl⟩
      go_wp2_with fail
      go_round
      case rel => exact ⟨k + 1, by omega, by go_num, by rw [hts.out, hsn.out]⟩
      case measure => simp [intOf]; omega
    · have hkn : l.take k = l := List.take_of_length_le (by omega)
      rw [hkn]
      unfold gc
      go_wp2_with fail
      go_ret
      exact ⟨rfl, rfl⟩

theorem on_nil (z : Int × Int) (hz : Ok z) (w : World) :
    Calls Tryd.prog 28 #[.complex .f64 (fk 0 z.1) (fk 0 z.2), .slice none 0 0] w fun e w' => e = .returned (gc z) ∧ w = w' := by
  go_enter Tryd.func28, Tryd.ntmps28
  go_wp2_with fail
  refine (may_gc z hz _).mono ?_
  rintro e w' ⟨rfl, rfl⟩
  go_wp2_with fail
  go_loop [0, 12] (fun a i => i = .int .i64 0 ∧ a = gc z) (fun _ _ => 0)
  case atStart => exact ⟨rfl, rfl⟩
  case round =>
    obtain ⟨rfl, rfl⟩ := hrel
    unfold gc
    go_wp2_with fail
    go_ret
    exact ⟨rfl, rfl⟩

theorem on_not (x y : Nat) (v : Value) (hx : (Ieee.double.read x).isNaN = false) (hy : (Ieee.double.read y).isNaN = false) (h : mayB x y = false) (w : World) :
    Calls Tryd.prog 28 #[.complex .f64 x y, v] w fun e w' => e = .returned (.complex .f64 0 0) ∧ w = w' := by
  have M2 := Lib.hid (may_not x y hx hy h)
  clear h
  go_enter Tryd.func28, Tryd.ntmps28
  go_wp2_with fail
  refine (M2.out _).mono ?_
  rintro e w' ⟨rfl, rfl⟩
  go_wp2_with fail
  go_ret
  exact ⟨rfl, rfl⟩

theorem ok_i : Ok (0, 1) := by unfold Ok; decide

theorem mark_gc (b off cap : Nat) (l : List UInt8) (hl : l.length ≤ maxLen) (w : World) (hc : BytesAt w b off l) :
    Calls Tryd.prog 17 #[.slice (some ⟨b, off, none⟩) l.length cap] w fun e w' => e = .returned (gc (gon (0, 1) l)) ∧ w = w' := by
  have h := on_gc (0, 1) b off cap l ok_i hl w hc
  simp only [fk_zero, fk_one] at h
  have H := Lib.hid h
  clear h hc
  unfold gc at *
  go_enter Tryd.func17, Tryd.ntmps17
  go_wp2_with fail
  refine H.out.mono ?_
  rintro e w' ⟨rfl, rfl⟩
  go_wp2_with fail
  go_ret
  exact ⟨rfl, rfl⟩

theorem mark_nil (w : World) :
    Calls Tryd.prog 17 #[.slice none 0 0] w fun e w' => e = .returned (gc (0, 1)) ∧ w = w' := by
  have h := on_nil (0, 1) ok_i w
  simp only [fk_zero, fk_one] at h
  have H := Lib.hid h
  clear h
  unfold gc at *
  go_enter Tryd.func17, Tryd.ntmps17
  go_wp2_with fail
  refine H.out.mono ?_
  rintro e w' ⟨rfl, rfl⟩
  go_wp2_with fail
  go_ret
  exact ⟨rfl, rfl⟩

end Go.Proofs.YtgjnllkbfjeihaaDoor
