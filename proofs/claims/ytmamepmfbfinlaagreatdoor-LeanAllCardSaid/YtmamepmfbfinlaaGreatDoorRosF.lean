/-
  The contracts of roster's Eq and of the reference's Spot, EqRoster, Side, MayRoster.
-/
import Derived.Test.YtmamepmfbfinlaaGreatDoorRosD
namespace Go.Proofs.YtmamepmfbfinlaaGreatDoor
open Go.RowKit

def eqR (a b : Ro) : Bool := decide (a.ep = b.ep) && (decide (a.nw = b.nw) && decide (a.l = b.l))

theorem two_boxes (w : World) (e nw e' nw' : Int) (ad ad' : Option Addr) (m m' c c' : Nat) (t : TypeId) :
    RC ((w.alloc (.cells #[.int .i64 e, .slice ad m c, .int .i64 nw] t)).alloc (.cells #[.int .i64 e', .slice ad' m' c', .int .i64 nw'] t)) w.heap.size e (.slice ad m c) nw ∧
    RC ((w.alloc (.cells #[.int .i64 e, .slice ad m c, .int .i64 nw] t)).alloc (.cells #[.int .i64 e', .slice ad' m' c', .int .i64 nw'] t)) (w.heap.size + 1) e' (.slice ad' m' c') nw' ∧
    Below w.heap.size w ((w.alloc (.cells #[.int .i64 e, .slice ad m c, .int .i64 nw] t)).alloc (.cells #[.int .i64 e', .slice ad' m' c', .int .i64 nw'] t)) := by
  refine ⟨(RC.new w e ad m c nw t).alloc _, ?_, ((Below.refl _ w).alloc (Nat.le_refl _) _).alloc (by simp) _⟩
  have := RC.new (w.alloc (.cells #[.int .i64 e, .slice ad m c, .int .i64 nw] t)) e' ad' m' c' nw' t
  simpa using this

set_option maxRecDepth 100000 in
set_option maxHeartbeats 4000000 in
theorem spot_p (e nw n : Int) (v : Value) (l : List Int) (w : World) (h : IsAt w v l) (hn : l.length ≤ 1000) :
    Calls Tryz.prog 16 #[.agg #[.int .i64 e, v, .int .i64 nw], .int .i64 n] w fun r w' => r = .returned (.int .i64 (ixI l n)) ∧ Below w.heap.size w w' := by
  obtain ⟨ad, cap, rfl, _⟩ := h.shape
  have HB := Lib.hid (ro_below w e (.slice ad l.length cap) nw 24)
  have h1 := RC.new w e ad l.length cap nw 24
  have HV := Lib.hid (h.below HB.out)
  obtain ⟨R, hR⟩ : ∃ R, ixI l n = R := ⟨_, rfl⟩
  rw [hR]
  have HR := Lib.hid hR
  clear hR h
  go_enter Tryz.func16, Tryz.ntmps16
  go_wp2_with fail
  generalize (w.alloc (.cells #[.int .i64 e, .slice ad l.length cap, .int .i64 nw] 24)) = W at *
  obtain ⟨⟨c0, c1, c2⟩, _⟩ := h1
  go_loopw [5] (fun i wr => ∃ k : Nat, k ≤ l.length ∧ i = .int .i64 k ∧ wr = W ∧ Hid (∀ j y, j < k → l[j]? = some y → y ≠ n)) (fun i _ => l.length - (intOf i).toNat)
  case atStart => exact ⟨0, Nat.zero_le _, rfl, rfl, Lib.hid (fun j y hj => absurd hj (Nat.not_lt_zero _))⟩
  case round =>
    obtain ⟨k, hk, rfl, rfl, A⟩ := hrel
    by_cases hlt : k < l.length
    · have hltz : (k : Int) < (l.length : Int) := by omega
      obtain ⟨x, hx⟩ : ∃ x, l[k]? = some x := ⟨_, List.getElem?_eq_getElem hlt⟩
      obtain ⟨g, o, rfl, x0⟩ := HV.out.get hx
      by_cases hq : x = n
      · subst hq
        obtain rfl : R = (k : Int) := by
          rw [← HR.out]; unfold ixI; rw [ixN_hit hx rfl A.out]
        clear hx
        go_wp2_with fail
        go_ret
        exact ⟨rfl, HB.out⟩
      · have hqb : (x == n) = false := by rw [beq_eq_false_iff_ne]; exact hq
        have HN : Hid (∀ j y, j < k + 1 → l[j]? = some y → y ≠ n) := Lib.hid (fun j y hj hy => by
          by_cases e : j = k
          · subst e
            rw [hx] at hy
            cases hy
            exact hq
          · exact A.out j y (by omega) hy)
        clear hx hq
        go_wp2_with fail
        go_roundw
        case rel => exact ⟨k + 1, by omega, by go_num, by first | rfl | trivial, HN⟩
        case measure => simp [intOf]; omega
    · have hltz : ¬ (k : Int) < (l.length : Int) := by omega
      obtain rfl : R = -1 := by
        rw [← HR.out]; unfold ixI; rw [ixN_miss (fun j y hj => A.out j y (by omega))]
      go_wp2_with fail
      go_ret
      exact ⟨rfl, HB.out⟩

def sideI (l : List Int) (n by' : Int) : Int := if ixI l n < 0 then 0 else getI l (ixI l n + by')

theorem side_next (l : List Int) (n : Int) : sideI l n 1 = nextI l n := rfl

theorem side_ahead (l : List Int) (n : Int) : sideI l n (-1) = aheadI l n := by
  unfold sideI aheadI
  split
  · unfold getI
    rw [if_neg (by omega)]
  · rfl

end Go.Proofs.YtmamepmfbfinlaaGreatDoor
