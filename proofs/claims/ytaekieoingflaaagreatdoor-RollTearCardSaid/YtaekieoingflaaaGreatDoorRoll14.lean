/-
  A chest of one roll, plainly.
-/
import Derived.Test.YtaekieoingflaaaGreatDoorBegun3
import Derived.Test.YtaekieoingflaaaGreatDoorMark
namespace Go.Proofs.YtaekieoingflaaaGreatDoor
open Go.RowKit Go.Maps Go.Proofs.MapD Go.Proofs.Chest

section
variable {room : Nat} {N : ByteArray} {x : Rl}

theorem one_get : Chest.get [(N, x)] N = some x := by simp [Chest.get]
theorem one_set (y : Rl) : Chest.set [(N, x)] N y = [(N, y)] := by simp [Chest.set]

theorem one_write0 (hN : okName N = true) (s : ByteArray) (hs : s.size ≤ room) : write ⟨room, []⟩ N s = (0, ⟨room - s.size, [(N, ⟨s, 0, false⟩)]⟩) := by
  unfold write
  rw [if_neg (by rw [hN]; decide), if_neg (by simpa using hs)]
  rfl

theorem one_write (hN : okName N = true) (s : ByteArray) (hs : s.size ≤ room) : write ⟨room, [(N, x)]⟩ N s = (0, ⟨room - s.size, [(N, ⟨x.t ++ s, x.p, x.s⟩)]⟩) := by
  unfold write
  rw [if_neg (by rw [hN]; decide), if_neg (by simpa using hs)]
  simp only [one_get, one_set]

theorem one_press : press ⟨room, [(N, x)]⟩ N = (0, ⟨room, [(N, ⟨x.t, x.t.size, true⟩)]⟩) := by
  unfold press
  simp only [one_get, one_set]

theorem one_cut (k : Nat) (hk : k ≤ x.t.size) : cut ⟨room, [(N, x)]⟩ N (k : Int) = (0, ⟨room + (x.t.size - k), [(N, ⟨x.t.extract 0 k, min x.p k, true⟩)]⟩) := by
  unfold cut
  simp only [one_get, one_set]
  rw [if_neg (by omega)]
  rfl

theorem one_tear (hx : x.s = true) (n : Int) : readS (tear ⟨room, [(N, x)]⟩ n) N = (x.t.extract 0 (stays x n), true) := by
  have : (tear ⟨room, [(N, x)]⟩ n).l = [(N, ⟨x.t.extract 0 (stays x n), stays x n, true⟩)] := by
    unfold tear torn
    simp [hx]
  unfold readS
  rw [this, one_get]

theorem one_pressed : pressedS ⟨room, [(N, x)]⟩ N = x.p := by
  unfold pressedS
  rw [one_get]

theorem one_read : readS ⟨room, [(N, x)]⟩ N = (x.t, true) := by
  unfold readS
  rw [one_get]

end

theorem emod_nat (a : Int) (n : Nat) (ha : 0 ≤ a) : a % (n : Int) = ((a.toNat % n : Nat) : Int) := by
  obtain ⟨k, rfl⟩ : ∃ k : Nat, a = k := ⟨a.toNat, by omega⟩
  simp

end Go.Proofs.YtaekieoingflaaaGreatDoor
