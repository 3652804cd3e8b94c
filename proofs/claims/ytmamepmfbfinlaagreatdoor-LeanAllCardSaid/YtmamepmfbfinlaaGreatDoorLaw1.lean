/-
  What the laws of marks share: the library's variables as they are laid, pairs, equality of whole complex numbers.
-/
import Derived.Test.YtmamepmfbfinlaaGreatDoorHex5
import Derived.Lib.AppendIntMem
namespace Go.Proofs.YtmamepmfbfinlaaGreatDoor
open Go.RowKit Go.Proofs.Flo Go.Proofs.Cpl

/-- The library's sentinel of range, as far as it is read. -/
def RngAt (w : World) : Prop := (∃ ev, w.cell? ⟨2, 0, none⟩ = some ev ∧ (ev = .nilIface ∨ ∃ te pe, ev = .iface te pe)) ∧ 2 < w.heap.size

theorem RngAt.below {w w' : World} (h : RngAt w) (hb : Below w.heap.size w w') : RngAt w' := by
  obtain ⟨⟨ev, h1, h2⟩, h3⟩ := h
  exact ⟨⟨ev, by rw [hb.cell h3]; exact h1, h2⟩, Nat.lt_of_lt_of_le h3 hb.size⟩

/-- The library's table of powers. -/
def PowAt (w : World) : Prop := Lib.TabIs Tryz.prog w "internal/strconv.uint64pow10" .u64 Lib.pow10Tab

theorem PowAt.below {w w' : World} (h : PowAt w) (hb : Below w.heap.size w w') : PowAt w' := Lib.tabBelow_of_tabIs h w' hb

/-- The library's variables, as far as they are read. -/
def LibAt (w : World) : Prop := TzAt w ∧ ErrAt w ∧ RngAt w ∧ PowAt w

theorem LibAt.below {w w' : World} (h : LibAt w) (hb : Below w.heap.size w w') : LibAt w' := ⟨h.1.below hb, h.2.1.below hb, h.2.2.1.below hb, h.2.2.2.below hb⟩

/-- Equality, in the walk's spelling. -/
def eqF (x y : Nat) : Bool := FloatKind.f64.format.order x y == some .eq

theorem eqF_fk (a b : Int) (ha : a.natAbs < 2 ^ 53) (hb : b.natAbs < 2 ^ 53) : eqF (fk 0 a) (fk 0 b) = decide (a = b) :=
  eqW_of (VW_fk 0 a (by omega) ha) (VW_fk 0 b (by omega) hb)

theorem eqF_ok {p q : Int × Int} (hp : Ok p) (hq : Ok q) : (eqF (fk 0 p.1) (fk 0 q.1) && eqF (fk 0 p.2) (fk 0 q.2)) = decide (p = q) := by
  unfold Ok at hp hq
  rw [eqF_fk _ _ (by omega) (by omega), eqF_fk _ _ (by omega) (by omega), ← Bool.decide_and]
  apply decide_eq_decide.2
  constructor
  · intro h; ext
    · exact h.1
    · exact h.2
  · rintro rfl; exact ⟨rfl, rfl⟩

/-- The same number is equal to itself. -/
theorem self_ok {p : Int × Int} (hp : Ok p) : (FloatKind.f64.format.order (fk 0 p.1) (fk 0 p.1) == some .eq) = true ∧ (FloatKind.f64.format.order (fk 0 p.2) (fk 0 p.2) == some .eq) = true := by
  have h := eqF_ok hp hp
  simp only [decide_true, Bool.and_eq_true] at h
  exact h

/-- That the values with which every law begins are right. -/
def BegunTrue : Prop := ∀ w, LibAt w → Calls Tryz.prog 28 #[] w fun e w' => e = .returned (.bool true) ∧ Below w.heap.size w w'

end Go.Proofs.YtmamepmfbfinlaaGreatDoor
