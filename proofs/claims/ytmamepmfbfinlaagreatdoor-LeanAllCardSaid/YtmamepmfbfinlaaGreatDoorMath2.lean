/-
  Marks, plainly: one byte that is another one gives another mark; so do two that change places; a longer text of noughts.
-/
import Derived.Test.YtmamepmfbfinlaaGreatDoorMath
namespace Go.Proofs.Cpl

def inv35 : Int × Int := (63594, 25052)

theorem inv35_ok : gmul (3, 5) inv35 = (1, 0) := by decide

/-- One step of a mark. -/
def gstep (z : Int × Int) (c : UInt8) : Int × Int := gadd (gmul z (3, 5)) ((c.toNat : Int) + 1, 0)

theorem gon_cons (z : Int × Int) (c : UInt8) (l : List UInt8) : gon z (c :: l) = gon (gstep z c) l := rfl

theorem gadd_cancel {p q r : Int × Int} (hp : Ok p) (hq : Ok q) (h : gadd p r = gadd q r) : p = q := by
  unfold Ok at hp hq
  unfold gadd red cadd at h
  have h1 := (Prod.mk.inj h).1
  have h2 := (Prod.mk.inj h).2
  simp only at h1 h2
  ext
  · omega
  · omega

theorem gmul_cancel {p q : Int × Int} (hp : Ok p) (hq : Ok q) (h : gmul p (3, 5) = gmul q (3, 5)) : p = q := by
  have h2 : gmul (gmul p (3, 5)) inv35 = gmul (gmul q (3, 5)) inv35 := by rw [h]
  rw [gmul_assoc, gmul_assoc, inv35_ok, gmul_one hp, gmul_one hq] at h2
  exact h2

theorem gstep_ok (z : Int × Int) (c : UInt8) : Ok (gstep z c) := ok_gadd _ _

theorem gstep_inj {z z' : Int × Int} (hz : Ok z) (hz' : Ok z') {c : UInt8} (h : gstep z c = gstep z' c) : z = z' :=
  gmul_cancel hz hz' (gadd_cancel (ok_gmul _ _) (ok_gmul _ _) h)

theorem gstep_byte {z : Int × Int} {c d : UInt8} (h : gstep z c = gstep z d) : c = d := by
  unfold gstep gadd red cadd at h
  have h1 := (Prod.mk.inj h).1
  simp only at h1
  have hc := c.toNat_lt
  have hd := d.toNat_lt
  apply UInt8.toNat_inj.1
  generalize (gmul z (3, 5)).1 = X at *
  omega

theorem gon_inj {z z' : Int × Int} (hz : Ok z) (hz' : Ok z') {l : List UInt8} (h : gon z l = gon z' l) : z = z' := by
  induction l generalizing z z' with
  | nil => exact h
  | cons c l ih => exact gstep_inj hz hz' (ih (gstep_ok _ _) (gstep_ok _ _) h)

/-- One byte another one. -/
theorem gon_turn (z : Int × Int) (u v : List UInt8) (c d : UInt8) : gon z (u ++ c :: v) = gon z (u ++ d :: v) ↔ c = d := by
  rw [gon_append, gon_append, gon_cons, gon_cons]
  constructor
  · intro h
    exact gstep_byte (gon_inj (gstep_ok _ _) (gstep_ok _ _) h)
  · rintro rfl; rfl

/-- Two bytes that change places. -/
theorem gon_swap (z : Int × Int) (u v : List UInt8) (c d : UInt8) : gon z (u ++ d :: c :: v) = gon z (u ++ c :: d :: v) ↔ c = d := by
  rw [gon_append, gon_append, gon_cons, gon_cons, gon_cons, gon_cons]
  constructor
  · intro h
    have h1 := gon_inj (gstep_ok _ _) (gstep_ok _ _) h
    have hc := c.toNat_lt
    have hd := d.toNat_lt
    have hm := ok_gmul (gon z u) (3, 5)
    unfold gstep at h1
    generalize gmul (gon z u) (3, 5) = m at *
    unfold Ok at hm
    have e2 := (Prod.mk.inj h1).2
    unfold gmul gadd red cadd cmul at e2
    simp only at e2
    apply UInt8.toNat_inj.1
    omega
  · rintro rfl; rfl


/-- A longer text of noughts. -/
theorem gon_noughts : ∀ n : Fin 41, gon (0, 1) (List.replicate n.val 0) ≠ gon (0, 1) (List.replicate (n.val + 1) 0) := by decide +kernel

end Go.Proofs.Cpl
