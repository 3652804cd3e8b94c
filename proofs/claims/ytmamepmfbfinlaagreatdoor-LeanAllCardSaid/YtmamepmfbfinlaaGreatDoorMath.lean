/-
  Whole complex numbers modulo 65,521, plainly: sums, products, powers, marks. No translation is imported.
-/
import Derived.WalkLawsBesides
namespace Go.Proofs.Cpl

/-- A pair with its parts brought to their places. -/
def red (p : Int × Int) : Int × Int := (p.1 % 65521, p.2 % 65521)
def cadd (p q : Int × Int) : Int × Int := (p.1 + q.1, p.2 + q.2)
def cmul (p q : Int × Int) : Int × Int := (p.1 * q.1 - p.2 * q.2, p.1 * q.2 + p.2 * q.1)
def gadd (p q : Int × Int) : Int × Int := red (cadd p q)
def gmul (p q : Int × Int) : Int × Int := red (cmul p q)

/-- A pair whose parts may be. -/
def Ok (p : Int × Int) : Prop := (0 ≤ p.1 ∧ p.1 ≤ 65520) ∧ (0 ≤ p.2 ∧ p.2 ≤ 65520)

theorem ok_red (p : Int × Int) : Ok (red p) := by unfold Ok red; omega
theorem ok_gadd (p q : Int × Int) : Ok (gadd p q) := ok_red _
theorem ok_gmul (p q : Int × Int) : Ok (gmul p q) := ok_red _
theorem red_ok {p : Int × Int} (h : Ok p) : red p = p := by
  obtain ⟨a, b⟩ := p
  unfold Ok at h
  unfold red
  simp only at *
  ext <;> simp <;> omega

theorem red_red (p : Int × Int) : red (red p) = red p := red_ok (ok_red p)

theorem emod_mul' (a b n : Int) : a % n * b % n = a * b % n := by
  rw [Int.mul_emod, Int.emod_emod, ← Int.mul_emod]

theorem red_cmul_left (p q : Int × Int) : red (cmul (red p) q) = red (cmul p q) := by
  unfold red cmul
  ext
  · show ((p.1 % 65521) * q.1 - (p.2 % 65521) * q.2) % 65521 = (p.1 * q.1 - p.2 * q.2) % 65521
    rw [Int.sub_emod, emod_mul', emod_mul', ← Int.sub_emod]
  · show ((p.1 % 65521) * q.2 + (p.2 % 65521) * q.1) % 65521 = (p.1 * q.2 + p.2 * q.1) % 65521
    rw [Int.add_emod, emod_mul', emod_mul', ← Int.add_emod]

theorem cmul_comm (p q : Int × Int) : cmul p q = cmul q p := by
  unfold cmul
  ext
  · show p.1 * q.1 - p.2 * q.2 = q.1 * p.1 - q.2 * p.2
    rw [Int.mul_comm p.1, Int.mul_comm p.2]
  · show p.1 * q.2 + p.2 * q.1 = q.1 * p.2 + q.2 * p.1
    rw [Int.mul_comm p.1, Int.mul_comm p.2, Int.add_comm]

theorem red_cmul_right (p q : Int × Int) : red (cmul p (red q)) = red (cmul p q) := by
  rw [cmul_comm, red_cmul_left, cmul_comm]

theorem red_cadd_left (p q : Int × Int) : red (cadd (red p) q) = red (cadd p q) := by
  unfold red cadd
  ext
  · exact Int.emod_add_emod ..
  · exact Int.emod_add_emod ..

theorem cadd_comm (p q : Int × Int) : cadd p q = cadd q p := by
  unfold cadd
  rw [Int.add_comm p.1, Int.add_comm p.2]

theorem red_cadd_right (p q : Int × Int) : red (cadd p (red q)) = red (cadd p q) := by
  rw [cadd_comm, red_cadd_left, cadd_comm]

theorem cmul_assoc (p q r : Int × Int) : cmul (cmul p q) r = cmul p (cmul q r) := by
  unfold cmul
  ext
  · simp only; grind
  · simp only; grind

theorem cmul_add (p q r : Int × Int) : cmul p (cadd q r) = cadd (cmul p q) (cmul p r) := by
  unfold cmul cadd
  ext
  · simp only; grind
  · simp only; grind

theorem gmul_comm (p q : Int × Int) : gmul p q = gmul q p := by unfold gmul; rw [cmul_comm]
theorem gadd_comm (p q : Int × Int) : gadd p q = gadd q p := by unfold gadd; rw [cadd_comm]
theorem gmul_assoc (p q r : Int × Int) : gmul (gmul p q) r = gmul p (gmul q r) := by
  unfold gmul; rw [red_cmul_left, red_cmul_right, cmul_assoc]
theorem gmul_add (p q r : Int × Int) : gmul p (gadd q r) = gadd (gmul p q) (gmul p r) := by
  unfold gmul gadd; rw [red_cmul_right, red_cadd_left, red_cadd_right, cmul_add]
theorem gmul_one {p : Int × Int} (h : Ok p) : gmul p (1, 0) = p := by
  unfold gmul
  have : cmul p (1, 0) = p := by unfold cmul; ext <;> simp
  rw [this, red_ok h]
theorem one_gmul {p : Int × Int} (h : Ok p) : gmul (1, 0) p = p := by rw [gmul_comm, gmul_one h]
theorem gadd_zero {p : Int × Int} (h : Ok p) : gadd p (0, 0) = p := by
  unfold gadd
  have : cadd p (0, 0) = p := by unfold cadd; ext <;> simp
  rw [this, red_ok h]

/-- 1 times p, n times. -/
def gpow (p : Int × Int) : Nat → Int × Int
  | 0 => (1, 0)
  | n + 1 => gmul (gpow p n) p

theorem ok_one : Ok (1, 0) := by unfold Ok; decide
theorem ok_gpow (p : Int × Int) (n : Nat) : Ok (gpow p n) := by
  cases n
  · exact ok_one
  · exact ok_gmul _ _

theorem gpow_add {p : Int × Int} (m n : Nat) : gmul (gpow p m) (gpow p n) = gpow p (m + n) := by
  induction n with
  | zero => exact gmul_one (ok_gpow p m)
  | succ n ih => rw [← Nat.add_assoc]; show gmul (gpow p m) (gmul (gpow p n) p) = gmul (gpow p (m + n)) p; rw [← gmul_assoc, ih]

theorem gpow_one {p : Int × Int} (h : Ok p) : gpow p 1 = p := one_gmul h

theorem gpow_sq {p : Int × Int} (h : Ok p) (n : Nat) : gpow (gmul p p) n = gpow p (2 * n) := by
  have h2 : gpow p 2 = gmul p p := by show gmul (gpow p 1) p = _; rw [gpow_one h]
  induction n with
  | zero => rfl
  | succ n ih =>
    show gmul (gpow (gmul p p) n) (gmul p p) = gpow p (2 * n + 2)
    rw [ih, ← h2, gpow_add]

/-- A mark: On. -/
def gon (z : Int × Int) (l : List UInt8) : Int × Int := l.foldl (fun z x => gadd (gmul z (3, 5)) ((x.toNat : Int) + 1, 0)) z

theorem ok_gon {z : Int × Int} (h : Ok z) (l : List UInt8) : Ok (gon z l) := by
  induction l generalizing z with
  | nil => exact h
  | cons x l ih => exact ih (ok_gadd _ _)

theorem gon_append (z : Int × Int) (l m : List UInt8) : gon z (l ++ m) = gon (gon z l) m := List.foldl_append ..
theorem gon_snoc (z : Int × Int) (l : List UInt8) (x : UInt8) : gon z (l ++ [x]) = gadd (gmul (gon z l) (3, 5)) ((x.toNat : Int) + 1, 0) := by
  rw [gon_append]; rfl

end Go.Proofs.Cpl
