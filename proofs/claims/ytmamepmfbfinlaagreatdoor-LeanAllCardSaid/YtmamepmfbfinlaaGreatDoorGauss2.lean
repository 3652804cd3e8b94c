/-
  The contracts of gauss.Pow, gauss.On and gauss.Mark.
-/
import Derived.Test.YtmamepmfbfinlaaGreatDoorGauss1
import Derived.Test.YtmamepmfbfinlaaGreatDoorMath
import Derived.LoopTactic
namespace Go.Proofs.YtmamepmfbfinlaaGreatDoor
open Go.RowKit Go.Proofs.Flo Go.Proofs.Cpl

def gc (p : Int × Int) : Value := .complex .f64 (fk 0 p.1) (fk 0 p.2)

theorem mul_gc (p q : Int × Int) (hp : Ok p) (hq : Ok q) (w : World) :
    Calls Tryz.prog 32 #[.complex .f64 (fk 0 p.1) (fk 0 p.2), .complex .f64 (fk 0 q.1) (fk 0 q.2)] w fun e w' => e = .returned (.complex .f64 (fk 0 (gmul p q).1) (fk 0 (gmul p q).2)) ∧ w = w' :=
  mul_gz p.1 p.2 q.1 q.2 hp.1 hp.2 hq.1 hq.2 w

theorem add_gc (p q : Int × Int) (hp : Ok p) (hq : Ok q) (w : World) :
    Calls Tryz.prog 70 #[.complex .f64 (fk 0 p.1) (fk 0 p.2), .complex .f64 (fk 0 q.1) (fk 0 q.2)] w fun e w' => e = .returned (.complex .f64 (fk 0 (gadd p q).1) (fk 0 (gadd p q).2)) ∧ w = w' :=
  add_gz p.1 p.2 q.1 q.2 hp.1 hp.2 hq.1 hq.2 w

theorem may_gc (p : Int × Int) (hp : Ok p) (w : World) :
    Calls Tryz.prog 51 #[.complex .f64 (fk 0 p.1) (fk 0 p.2)] w fun e w' => e = .returned (.bool true) ∧ w = w' :=
  may_gz p.1 p.2 hp.1 hp.2 w

theorem fk_one : fk 0 1 = 4607182418800017408 := by decide
theorem fk_three : fk 0 3 = 4613937818241073152 := by decide
theorem fk_five : fk 0 5 = 4617315517961601024 := by decide

/-- What a round of the loop keeps. -/
def PowRel (p : Int × Int) (n : Nat) (a m t : Value) : Prop :=
  ∃ (k : Nat) (x y : Int × Int), k ≤ n ∧ a = gc x ∧ m = .int .i64 k ∧ t = gc y ∧ Ok x ∧ Ok y ∧ gmul y (gpow x k) = gpow p n

set_option maxRecDepth 100000 in
set_option maxHeartbeats 400000 in
theorem pow_gc (p : Int × Int) (n : Nat) (hp : Ok p) (hn : n ≤ 9223372036854775807) (w : World) :
    Calls Tryz.prog 33 #[.complex .f64 (fk 0 p.1) (fk 0 p.2), .int .i64 n] w fun e w' => e = .returned (gc (gpow p n)) ∧ w = w' := by
  have hn0 : ¬ (n : Int) < 0 := by omega
  go_enter Tryz.func33, Tryz.ntmps33
  go_wp2_with fail
  refine (may_gc p hp _).mono ?_
  rintro e w' ⟨rfl, rfl⟩
  go_wp2_with fail
  go_loop [0, 1, 5] (fun a m t => PowRel p n a m t) (fun _ m _ => (intOf m).toNat)
  case atStart =>
    refine ⟨n, p, (1, 0), Nat.le_refl _, rfl, rfl, ?_, hp, ok_one, one_gmul (ok_gpow p n)⟩
    unfold gc
    rw [fk_zero, fk_one]
  case round =>
    obtain ⟨k, x, y, hk, rfl, rfl, rfl, hx, hy, hxy⟩ := hrel
    have HXY := Lib.hid hxy
    clear hxy
    unfold gc
    by_cases hlt : 0 < k
    · have hlt' : (0 : Int) < (k : Int) := by omega
      rcases Nat.mod_two_eq_zero_or_one k with hodd | hodd
      · have ho : (k : Int) % 2 = 0 := by omega
        have hk2 : k = 2 * (k / 2) := by omega
        have hq := gpow_sq hx (k / 2)
        rw [← hk2] at hq
        have HQ := Lib.hid hq
        have HK := Lib.hid hk2
        clear hq hodd hk2
        go_wp2_with fail
        refine (mul_gc x x hx hx _).mono ?_
        rintro e w' ⟨rfl, rfl⟩
        go_wp2_with fail
        go_round
        case rel =>
          refine ⟨k / 2, gmul x x, y, by omega, rfl, by go_num, rfl, ok_gmul _ _, hy, ?_⟩
          rw [HQ.out]
          exact HXY.out
        case measure => simp [intOf]; omega
      · have ho : (k : Int) % 2 = 1 := by omega
        have hk2 : k = 1 + 2 * (k / 2) := by omega
        have hq := gpow_sq hx (k / 2)
        have hs := gpow_add (p := x) 1 (2 * (k / 2))
        rw [← hk2, gpow_one hx] at hs
        have HQ := Lib.hid hq
        have HS := Lib.hid hs
        clear hq hs hodd hk2
        go_wp2_with fail
        refine (mul_gc y x hy hx _).mono ?_
        rintro e w' ⟨rfl, rfl⟩
        go_wp2_with fail
        refine (mul_gc x x hx hx _).mono ?_
        rintro e w' ⟨rfl, rfl⟩
        go_wp2_with fail
        go_round
        case rel =>
          refine ⟨k / 2, gmul x x, gmul y x, by omega, rfl, by go_num, rfl, ok_gmul _ _, ok_gmul _ _, ?_⟩
          rw [HQ.out, gmul_assoc, HS.out]
          exact HXY.out
        case measure => simp [intOf]; omega
    · have hk0 : k = 0 := by omega
      subst hk0
      go_wp2_with fail
      go_ret
      refine ⟨?_, rfl⟩
      have h := HXY.out
      rw [show gpow x 0 = (1, 0) from rfl, gmul_one hy] at h
      rw [← h]
      rfl


/-- A slice of bytes in memory. -/
def BytesAt (w : World) (b off : Nat) (l : List UInt8) : Prop := ∀ i (h : i < l.length), w.cell? ⟨b, off + i, none⟩ = some (.int .u8 (l[i].toNat : Int))

theorem mul35 (p : Int × Int) (hp : Ok p) (w : World) :
    Calls Tryz.prog 32 #[.complex .f64 (fk 0 p.1) (fk 0 p.2), .complex .f64 4613937818241073152 4617315517961601024] w fun e w' => e = .returned (.complex .f64 (fk 0 (gmul p (3, 5)).1) (fk 0 (gmul p (3, 5)).2)) ∧ w = w' := by
  have h := mul_gc p (3, 5) hp (by unfold Ok; decide) w
  simp only [fk_three, fk_five] at h
  exact h

theorem add_byte (p : Int × Int) (n : Int) (hp : Ok p) (h0 : 0 ≤ n) (h1 : n ≤ 65520) (w : World) :
    Calls Tryz.prog 70 #[.complex .f64 (fk 0 p.1) (fk 0 p.2), .complex .f64 (fk 0 n) 0] w fun e w' => e = .returned (.complex .f64 (fk 0 (gadd p (n, 0)).1) (fk 0 (gadd p (n, 0)).2)) ∧ w = w' := by
  have h := add_gc p (n, 0) hp ⟨⟨h0, h1⟩, ⟨by simp, by simp⟩⟩ w
  simp only [fk_zero] at h
  exact h

theorem list_take_snoc (l : List UInt8) (k : Nat) (h : k < l.length) : l.take (k + 1) = l.take k ++ [l[k]] := by
  rw [List.take_succ_eq_append_getElem h]

set_option maxRecDepth 100000 in
set_option maxHeartbeats 400000 in
theorem on_gc (z : Int × Int) (b off cap : Nat) (l : List UInt8) (hz : Ok z) (hl : l.length ≤ maxLen) (w : World) (hc : BytesAt w b off l) :
    Calls Tryz.prog 53 #[.complex .f64 (fk 0 z.1) (fk 0 z.2), .slice (some ⟨b, off, none⟩) l.length cap] w fun e w' => e = .returned (gc (gon z l)) ∧ w = w' := by
  unfold maxLen at hl
  have HC := Lib.hid hc
  clear hc
  go_enter Tryz.func53, Tryz.ntmps53
  go_wp2_with fail
  refine (may_gc z hz _).mono ?_
  rintro e w' ⟨rfl, rfl⟩
  go_wp2_with fail
  go_loop [0, 12] (fun a i => ∃ k : Nat, k ≤ l.length ∧ i = .int .i64 k ∧ a = gc (gon z (l.take k))) (fun _ i => l.length - (intOf i).toNat)
  case atStart => exact ⟨0, Nat.zero_le _, rfl, rfl⟩
  case round =>
    obtain ⟨k, hk, rfl, rfl⟩ := hrel
    by_cases hlt : k < l.length
    · have hok := ok_gon hz (l.take k)
      have hsn := Lib.hid (gon_snoc z (l.take k) l[k])
      have hts := Lib.hid (list_take_snoc l k hlt)
      have hu := l[k].toNat_lt
      have hcell := HC.out k hlt
      generalize hg : gon z (l.take k) = g at *
      have HG := Lib.hid hg
      clear hg
      generalize l[k] = c at *
      have hlt' : (k : Int) < (l.length : Int) := by omega
      have q1 : floatOfInt .f64 (c.toNat : Int) = fk 0 (c.toNat : Int) := floatOfInt_eq _ (by omega)
      have q2 := fun t w => run_float_arith (P := Tryz.prog) w .add t .f64 (fk 0 (c.toNat : Int)) 4607182418800017408 (fk 0 ((c.toNat : Int) + 1)) (by
        rw [← fk_one]
        exact add_fk 0 _ _ (by omega) (by omega) (by omega) (by omega))
      unfold gc
      go_wp2_with fail
      refine (mul35 g hok _).mono ?_
      rintro e w' ⟨rfl, rfl⟩
      go_wp2_with fail
      refine (add_byte (gmul g (3, 5)) _ (ok_gmul _ _) (by omega) (by omega) _).mono ?_
      rintro e w' ⟨rfl, rfl⟩
      go_wp2_with fail
      go_round
      case rel => exact ⟨k + 1, by omega, by go_num, by rw [hts.out, hsn.out]⟩
      case measure => simp [intOf]; omega
    · have hkn : l.take k = l := List.take_of_length_le (by omega)
      rw [hkn]
      unfold gc
      go_wp2_with fail
      go_ret
      exact ⟨rfl, rfl⟩

theorem on_nil (z : Int × Int) (hz : Ok z) (w : World) :
    Calls Tryz.prog 53 #[.complex .f64 (fk 0 z.1) (fk 0 z.2), .slice none 0 0] w fun e w' => e = .returned (gc z) ∧ w = w' := by
  go_enter Tryz.func53, Tryz.ntmps53
  go_wp2_with fail
  refine (may_gc z hz _).mono ?_
  rintro e w' ⟨rfl, rfl⟩
  go_wp2_with fail
  go_loop [0, 12] (fun a i => i = .int .i64 0 ∧ a = gc z) (fun _ _ => 0)
  case atStart => exact ⟨rfl, rfl⟩
  case round =>
    obtain ⟨rfl, rfl⟩ := hrel
    unfold gc
    go_wp2_with fail
    go_ret
    exact ⟨rfl, rfl⟩

theorem on_not (x y : Nat) (v : Value) (hx : (Ieee.double.read x).isNaN = false) (hy : (Ieee.double.read y).isNaN = false) (h : mayB x y = false) (w : World) :
    Calls Tryz.prog 53 #[.complex .f64 x y, v] w fun e w' => e = .returned (.complex .f64 0 0) ∧ w = w' := by
  have M2 := Lib.hid (may_not x y hx hy h)
  clear h
  go_enter Tryz.func53, Tryz.ntmps53
  go_wp2_with fail
  refine (M2.out _).mono ?_
  rintro e w' ⟨rfl, rfl⟩
  go_wp2_with fail
  go_ret
  exact ⟨rfl, rfl⟩

theorem pow_neg (x y : Nat) (n : Int) (hn : n < 0) (w : World) :
    Calls Tryz.prog 33 #[.complex .f64 x y, .int .i64 n] w fun e w' => e = .returned (.complex .f64 0 0) ∧ w = w' := by
  go_enter Tryz.func33, Tryz.ntmps33
  go_wp2_with fail
  go_ret
  exact ⟨rfl, rfl⟩

theorem pow_not (x y : Nat) (n : Int) (hn : 0 ≤ n) (hx : (Ieee.double.read x).isNaN = false) (hy : (Ieee.double.read y).isNaN = false) (h : mayB x y = false) (w : World) :
    Calls Tryz.prog 33 #[.complex .f64 x y, .int .i64 n] w fun e w' => e = .returned (.complex .f64 0 0) ∧ w = w' := by
  have M2 := Lib.hid (may_not x y hx hy h)
  clear h
  have hn' : ¬ n < 0 := by omega
  go_enter Tryz.func33, Tryz.ntmps33
  go_wp2_with fail
  refine (M2.out _).mono ?_
  rintro e w' ⟨rfl, rfl⟩
  go_wp2_with fail
  go_ret
  exact ⟨rfl, rfl⟩

theorem ok_i : Ok (0, 1) := by unfold Ok; decide

theorem mark_gc (b off cap : Nat) (l : List UInt8) (hl : l.length ≤ maxLen) (w : World) (hc : BytesAt w b off l) :
    Calls Tryz.prog 34 #[.slice (some ⟨b, off, none⟩) l.length cap] w fun e w' => e = .returned (gc (gon (0, 1) l)) ∧ w = w' := by
  have h := on_gc (0, 1) b off cap l ok_i hl w hc
  simp only [fk_zero, fk_one] at h
  have H := Lib.hid h
  clear h hc
  unfold gc at *
  go_enter Tryz.func34, Tryz.ntmps34
  go_wp2_with fail
  refine H.out.mono ?_
  rintro e w' ⟨rfl, rfl⟩
  go_wp2_with fail
  go_ret
  exact ⟨rfl, rfl⟩

theorem mark_nil (w : World) :
    Calls Tryz.prog 34 #[.slice none 0 0] w fun e w' => e = .returned (gc (0, 1)) ∧ w = w' := by
  have h := on_nil (0, 1) ok_i w
  simp only [fk_zero, fk_one] at h
  have H := Lib.hid h
  clear h
  unfold gc at *
  go_enter Tryz.func34, Tryz.ntmps34
  go_wp2_with fail
  refine H.out.mono ?_
  rintro e w' ⟨rfl, rfl⟩
  go_wp2_with fail
  go_ret
  exact ⟨rfl, rfl⟩

end Go.Proofs.YtmamepmfbfinlaaGreatDoor
