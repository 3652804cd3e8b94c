/-
 Contracts of the program, and what they rest on.
-/
import Derived.Test.YtfglfelcpmbmaaaGreatDoorM03
import Derived.Lib.QuietBelow
import Derived.Test.YtfglfelcpmbmaaaGreatDoorRRef2
namespace Go.Proofs.YtfglfelcpmbmaaaGreatDoor
open Go.RowKit Go.Proofs.Flo Go.Proofs.Cpl Go.Sort
def cutS (s : ByteArray) (n : Nat) : ByteArray := s.extract 0 (min s.size n)
theorem cutS_size (s : ByteArray) (n : Nat) : (cutS s n).size ≤ n := by
 unfold cutS
 rw [ByteArray.size_extract]
 omega
theorem cut_any (s : ByteArray) (n : Nat) (w : World) :
  Calls Tryz.prog 11 #[.string s, .int .i64 n] w fun e w' => e = .returned (.string (cutS s n)) ∧ w = w' := by
 have hb0 : (0 : Int) ≤ min (s.size : Int) (n : Int) := by omega
 have hb1 : min (s.size : Int) (n : Int) ≤ (s.size : Int) := by omega
 have hm : (min (s.size : Int) (n : Int)).toNat = min s.size n := by omega
 go_enter Tryz.func11, Tryz.ntmps11
 go_wp2
 go_ret
 exact ⟨rfl, rfl⟩
theorem BytesAt.below {w w' : World} {b off : Nat} {l : List UInt8} (h : BytesAt w b off l) (hb : Below w.heap.size w w') (hs : b < w.heap.size) : BytesAt w' b off l := by
 intro i hi
 rw [hb.cell hs]
 exact h i hi
theorem rmark_str (s : ByteArray) (G : Int × Int) (hG : gon (0, 1) s.data.toList = G) (hs : s.size ≤ maxLen) (w : World) :
  Calls Tryz.prog 54 #[.string s] w fun e w' => e = .returned (.agg #[.int .i64 G.1, .int .i64 G.2]) ∧ Below w.heap.size w w' := by
 subst hG
 exact rmark_any s hs w
theorem bytesWorld_free (w : World) (e : TypeId) (s : ByteArray) (k : Nat) (h : k < s.size) : (Lib.bytesWorld w e s).frozen? ⟨w.heap.size, k, none⟩ = false := by
 unfold World.frozen?
 rw [Lib.bytesWorld_at_new]
 have hs : s.size ≤ (Lib.bytesCells w e s).size := by
  unfold Lib.bytesCells
  rw [Array.size_append, Array.size_map]
  exact Nat.le_add_right _ _
 simp only
 have : ¬ (Lib.bytesCells w e s).size ≤ k := by omega
 simp [this]
theorem BytesAt.set {w : World} {b : Nat} {l : List UInt8} (h : BytesAt w b 0 l) (k : Nat) (hk : k < l.length) (c : UInt8) : BytesAt (w.setCell ⟨b, k, none⟩ (.int .u8 (c.toNat : Int))) b 0 (l.set k c) := by
 intro i hi
 rw [List.length_set] at hi
 have hc := h i hi
 have hck := h k hk
 rw [Nat.zero_add] at hc hck ⊢
 by_cases e : i = k
 ·subst e
  rw [List.getElem_set_self]
  go_simp
 ·rw [List.getElem_set_ne (fun g => e g.symm)]
  go_simp
end Go.Proofs.YtfglfelcpmbmaaaGreatDoor
