/-
 Contracts of the program, and what they rest on.
-/
import Derived.Test.YtlajbminbdhpaaaGreatDoorM03
import Derived.Test.YtlajbminbdhpaaaGreatDoorM11
import Derived.Test.YtlajbminbdhpaaaGreatDoorRMark
import Derived.Test.YtlajbminbdhpaaaGreatDoorLeA
namespace Go.Proofs.YtlajbminbdhpaaaGreatDoor
open Go.RowKit
theorem cutS_twice (s : ByteArray) (n : Nat) : cutS (cutS s n) n = cutS s n := by
 have h := cutS_size s n
 generalize cutS s n = t at *
 unfold cutS
 rw [Nat.min_eq_left h]
 apply ByteArray.ext
 rw [ByteArray.data_extract]
 exact Array.extract_size ..
theorem cutVe_twice (x : Ve) : cutVe (cutVe x) = cutVe x := by
 unfold cutVe
 dsimp only
 rw [cutS_twice]
theorem cutL_twice (l : List Ve) : cutL (cutL l) = cutL l := by
 have h : ((l.take 14).map cutVe).take 14 = (l.take 14).map cutVe := List.take_of_length_le (by simp; omega)
 show (((l.take 14).map cutVe).take 14).map cutVe = _
 rw [h, List.map_map]
 exact List.map_congr_left fun x _ => cutVe_twice x
theorem cutL_len (l : List Ve) : (cutL l).length ≤ 14 := by
 unfold cutL
 simp
 omega
theorem addE_len (l : List Ve) (x : Ve) : (addE l x).1.length ≤ l.length + 1 := by
 unfold addE
 split
 ·simp
 ·simp
theorem purgeE_len (l : List Ve) (n : Int) : (purgeE l n).1.length ≤ l.length := by
 unfold purgeE
 split
 ·simp
 ·simp
  omega
theorem cutL_bodies (l : List Ve) : ∀ y ∈ cutL l, y.body.size ≤ 302 := by
 intro y hy
 unfold cutL at hy
 obtain ⟨x, _, rfl⟩ := List.mem_map.1 hy
 exact cutS_size _ _
def w3v (w : World) (key : ByteArray) (ad : Option Addr) (n c : Nat) (x : Ve) (t t' : TypeId) : World := (w.alloc (.cells #[.string key, .slice ad n c] t)).alloc (.cells #[.int .i64 x.ver, .bool x.gone, .string x.body] t')
theorem w3v_below (w : World) (key : ByteArray) (ad : Option Addr) (n c : Nat) (x : Ve) (t t' : TypeId) : Below w.heap.size w (w3v w key ad n c x t t') := ((Below.refl _ w).alloc (Nat.le_refl _) _).alloc (by simp) _
theorem w3v_ec (w : World) (key : ByteArray) (ad : Option Addr) (n c : Nat) (x : Ve) (t t' : TypeId) : EC (w3v w key ad n c x t t') w.heap.size key (.slice ad n c) := (EC.new w key ad n c t).alloc _
theorem w3v_vc (w : World) (key : ByteArray) (ad : Option Addr) (n c : Nat) (x : Ve) (t t' : TypeId) : VC3 (w3v w key ad n c x t t') (w.heap.size + 1) x := by
 have := VC3.new (w.alloc (.cells #[.string key, .slice ad n c] t)) x t'
 rw [show (w.alloc (.cells #[.string key, .slice ad n c] t)).heap.size = w.heap.size + 1 by simp] at this
 exact this
theorem ec_put2 {w : World} {b : Nat} {key : ByteArray} {v : Value} (h : EC w b key v) (K : ByteArray) (v' : Value) : EC ((w.setCell ⟨b, 0, none⟩ (.string K)).setCell ⟨b, 1, none⟩ v') b K v' := by
 obtain ⟨⟨h0, h1⟩, f0, f1⟩ := h
 refine ⟨⟨?_, ?_⟩, ?_, ?_⟩ <;> go_simp
end Go.Proofs.YtlajbminbdhpaaaGreatDoor
