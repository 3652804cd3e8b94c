/-
  The contracts of the reference's Pow, On and Mark (loops over a pair in memory).
-/
import Derived.Test.YtgjnllkbfjeihaaDoorRef1
import Derived.Test.YtgjnllkbfjeihaaDoorMath
import Derived.LoopTactic
import Derived.Deep.RegionWith
namespace Go.Proofs.YtgjnllkbfjeihaaDoor
open Go.RowKit Go.Proofs.Flo Go.Proofs.Cpl

def pq (p : Int × Int) : Value := pz p.1 p.2

/-- A pair in memory at block b. -/
def At (w : World) (b : Nat) (p : Int × Int) : Prop :=
  (w.cell? ⟨b, 0, none⟩ = some (.int .i64 p.1) ∧ w.cell? ⟨b, 1, none⟩ = some (.int .i64 p.2)) ∧ (w.frozen? ⟨b, 0, none⟩ = false ∧ w.frozen? ⟨b, 1, none⟩ = false) ∧ b < w.heap.size

theorem At.below {w w' : World} {b : Nat} {p : Int × Int} (h : At w b p) (hb : Below w.heap.size w w') : At w' b p := by
  obtain ⟨⟨c0, c1⟩, ⟨z0, z1⟩, hs⟩ := h
  refine ⟨⟨?_, ?_⟩, ⟨?_, ?_⟩, Nat.lt_of_lt_of_le hs hb.size⟩
  · rw [hb.cell hs]; exact c0
  · rw [hb.cell hs]; exact c1
  · rw [hb.frozen hs]; exact z0
  · rw [hb.frozen hs]; exact z1

theorem At.alloc {w : World} {b : Nat} {p : Int × Int} (h : At w b p) (o : Obj) : At (w.alloc o) b p :=
  h.below ((Below.refl _ _).alloc (Nat.le_refl _) _)

theorem At.new (w : World) (a b : Int) (t : TypeId) : At (w.alloc (.cells #[.int .i64 a, .int .i64 b] t)) w.heap.size (a, b) := by
  refine ⟨⟨?_, ?_⟩, ⟨?_, ?_⟩, ?_⟩
  · go_simp
  · go_simp
  · go_simp
  · go_simp
  · simp

theorem At.set {w : World} {b : Nat} {p q : Int × Int} (h : At w b p) : At ((w.setCell ⟨b, 0, none⟩ (.int .i64 q.1)).setCell ⟨b, 1, none⟩ (.int .i64 q.2)) b q := by
  obtain ⟨⟨c0, c1⟩, ⟨z0, z1⟩, hs⟩ := h
  refine ⟨⟨?_, ?_⟩, ⟨?_, ?_⟩, ?_⟩
  · go_simp
  · go_simp
  · go_simp
  · go_simp
  · simpa using hs

theorem At.other {w : World} {b c : Nat} {p q : Int × Int} (h : At w b p) (hc : b ≠ c) : At ((w.setCell ⟨c, 0, none⟩ (.int .i64 q.1)).setCell ⟨c, 1, none⟩ (.int .i64 q.2)) b p := by
  obtain ⟨⟨c0, c1⟩, ⟨z0, z1⟩, hs⟩ := h
  have hne : ∀ i j, (⟨c, i, none⟩ : Addr) ≠ ⟨b, j, none⟩ := fun i j e => hc (Addr.mk.inj e).1.symm
  refine ⟨⟨?_, ?_⟩, ⟨?_, ?_⟩, ?_⟩
  · go_simp
  · go_simp
  · go_simp
  · go_simp
  · simpa using hs

theorem At.drew {w : World} {b : Nat} {p : Int × Int} (h : At w b p) : At w.drew b p := h

theorem take_snoc (s : ByteArray) (k : Nat) (h : k < s.size) : s.data.toList.take (k + 1) = s.data.toList.take k ++ [s[k]] := by
  rw [List.take_succ_eq_append_getElem (by simpa using h)]; rfl

end Go.Proofs.YtgjnllkbfjeihaaDoor
