/-
  Chains, plainly: places in a chain that may be; a box that is written anew.
-/
import Derived.Test.YtmamepmfbfinlaaGreatDoorRosJ
namespace Go.Proofs.YtmamepmfbfinlaaGreatDoor
open Go.RowKit

/-- A box is written anew, with a list of the call's own. -/
theorem box_put {w W1 W2 : World} {r0 : Ro} {ad : Option Addr} {m cap : Nat} (hc : CB W1 w.heap.size r0 ad m cap) (hb : Below w.heap.size w W1) {L : List Int} {a2 : Option Addr} {c2 : Nat} (ho : IOwn W2 W1.heap.size (.slice a2 L.length c2) L) (hy : Below W1.heap.size W1 W2) {e nw : Int} :
    CB (((W2.setCell ⟨w.heap.size, 0, none⟩ (.int .i64 e)).setCell ⟨w.heap.size, 1, none⟩ (.slice a2 L.length c2)).setCell ⟨w.heap.size, 2, none⟩ (.int .i64 nw)) w.heap.size ⟨e, L, nw⟩ a2 L.length c2 ∧ IOwn (((W2.setCell ⟨w.heap.size, 0, none⟩ (.int .i64 e)).setCell ⟨w.heap.size, 1, none⟩ (.slice a2 L.length c2)).setCell ⟨w.heap.size, 2, none⟩ (.int .i64 nw)) (w.heap.size + 1) (.slice a2 L.length c2) L ∧ Below w.heap.size w (((W2.setCell ⟨w.heap.size, 0, none⟩ (.int .i64 e)).setCell ⟨w.heap.size, 1, none⟩ (.slice a2 L.length c2)).setCell ⟨w.heap.size, 2, none⟩ (.int .i64 nw)) := by
  have hlt : w.heap.size < W1.heap.size := hc.c.lt
  have hk : ∀ g, g ≠ w.heap.size → ((((W2.setCell ⟨w.heap.size, 0, none⟩ (.int .i64 e)).setCell ⟨w.heap.size, 1, none⟩ (.slice a2 L.length c2)).setCell ⟨w.heap.size, 2, none⟩ (.int .i64 nw))).heap[g]? = W2.heap[g]? := fun g hg => by
    rw [Below.heap_setCell _ _ _ _ (by simpa using hg), Below.heap_setCell _ _ _ _ (by simpa using hg), Below.heap_setCell _ _ _ _ (by simpa using hg)]
  have ho2 : IOwn (((W2.setCell ⟨w.heap.size, 0, none⟩ (.int .i64 e)).setCell ⟨w.heap.size, 1, none⟩ (.slice a2 L.length c2)).setCell ⟨w.heap.size, 2, none⟩ (.int .i64 nw)) (w.heap.size + 1) (.slice a2 L.length c2) L := (ho.mono (show w.heap.size + 1 ≤ W1.heap.size from hlt)).kept (fun j hj => hk j (by have := (ho.lt hj).1; omega))
  have hb2 : Below w.heap.size w W2 := hb.trans (hy.mono hb.size)
  refine ⟨⟨rc_put (hc.c.below hy) _ _ _ _ _, ho2.at⟩, ho2, ?_⟩
  exact ((hb2.setCell (p := ⟨w.heap.size, 0, none⟩) (Nat.le_refl _) (.int .i64 e)).setCell (p := ⟨w.heap.size, 1, none⟩) (Nat.le_refl _) (.slice a2 L.length c2)).setCell (p := ⟨w.heap.size, 2, none⟩) (Nat.le_refl _) (.int .i64 nw)

theorem getI_at {l : List Int} {k : Nat} {x : Int} (hx : l[k]? = some x) : getI l (k : Int) = x := by
  have hk : k < l.length := (List.getElem?_eq_some_iff.1 hx).1
  unfold getI
  rw [if_pos ⟨by omega, by omega⟩, Int.toNat_natCast, List.getD_eq_getElem?_getD, hx]
  rfl

theorem getI_out {l : List Int} {k : Nat} (hk : l.length ≤ k) : getI l (k : Int) = 0 := by
  unfold getI
  rw [if_neg (by omega)]

theorem mayR_ns {e : Int} {l : List Int} {nw : Int} (h : mayR ⟨e, l, nw⟩ = true) : mayNs l = true ∧ mayW l nw = true := by
  unfold mayR at h
  dsimp only at h
  rw [Bool.and_eq_true, Bool.and_eq_true] at h
  exact h.2

theorem mayNs_good {l : List Int} (h : mayNs l = true) {k : Nat} (hk : k < l.length) : goodK l k = true := by
  unfold mayNs at h
  rw [Bool.and_eq_true, List.all_eq_true] at h
  exact h.2 k (List.mem_range.2 hk)

theorem mayNs_at {l : List Int} (h : mayNs l = true) {k : Nat} {x : Int} (hx : l[k]? = some x) : 1 ≤ x ∧ x ≤ 5 ∧ hasI (l.take k) x = false ∧ ixI l x = (k : Int) := by
  have hk : k < l.length := (List.getElem?_eq_some_iff.1 hx).1
  have hg := mayNs_good h hk
  rw [goodK_at hx, Bool.and_eq_true] at hg
  have h1 := of_decide_eq_true hg.1
  have h2 : hasI (l.take k) x = false := by simpa using hg.2
  exact ⟨h1.1, h1.2, h2, ix_here hx h2⟩

theorem next_at {l : List Int} (h : mayNs l = true) {k : Nat} {x : Int} (hx : l[k]? = some x) : nextI l x = getI l ((k + 1 : Nat) : Int) := by
  have := (mayNs_at h hx).2.2.2
  unfold nextI
  rw [this, if_neg (by omega)]
  rfl

theorem ahead_at {l : List Int} (h : mayNs l = true) {k : Nat} {x : Int} (hx : l[k]? = some x) : aheadI l x = getI l ((k : Int) - 1) := by
  have := (mayNs_at h hx).2.2.2
  unfold aheadI
  rw [this]

theorem chkR_len (r : Ro) : (chkR r).1.l.length ≤ r.l.length := by
  unfold chkR
  split
  · exact Nat.le_refl _
  · exact Nat.zero_le _

theorem addR_len (r : Ro) (n : Int) : (addR r n).1.l.length ≤ r.l.length + 1 := by
  unfold addR
  split
  · exact Nat.le_trans (chkR_len _) (by simp)
  · exact Nat.zero_le _

theorem dropR_len (r : Ro) (n : Int) : (dropR r n).1.l.length ≤ r.l.length := by
  unfold dropR
  split
  · exact Nat.zero_le _
  · split
    · exact Nat.le_trans (chkR_len _) (by simp; omega)
    · exact Nat.zero_le _

end Go.Proofs.YtmamepmfbfinlaaGreatDoor
