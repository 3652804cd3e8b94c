/-
  The contracts of the reference's reckoning with pairs (armariumref1: mod, Add, Mul, Pow, On, Mark) and of the law's own pair, z, Cut.
-/
import Derived.Test.YtgjnllkbfjeihaaDoorProg
import Derived.Test.YtgjnllkbfjeihaaDoorFlM
import Derived.WalkKit
import Derived.WalkSpells
import Derived.WalkLawsBesides
import Derived.Lib.Hide
import Derived.Deep.QuietTactic
import Derived.BigQuiet
import Derived.StillTailTactics
namespace Go.Proofs.YtgjnllkbfjeihaaDoor
open Go.RowKit Go.Proofs.Flo

theorem ret_int {k : IntKind} {a b : Int} (h : a = b) : Ending.returned (.int k a) = .returned (.int k b) := by rw [h]

theorem tmod_prime (n : Int) : (n.tmod 65521 < 0 → n.tmod 65521 + 65521 = n % 65521) ∧ (¬ n.tmod 65521 < 0 → n.tmod 65521 = n % 65521) ∧ -65521 < n.tmod 65521 ∧ n.tmod 65521 < 65521 := by
  have h1 := Int.tmod_lt_of_pos n (show (0 : Int) < 65521 by decide)
  have h2 := Int.lt_tmod_of_pos n (show (0 : Int) < 65521 by decide)
  have h3 := Int.tmod_add_mul_tdiv n 65521
  generalize n.tmod 65521 = r at *
  generalize n.tdiv 65521 = q at *
  refine ⟨fun h => ?_, fun h => ?_, by omega, h1⟩
  · omega
  · omega

/-- A pair. -/
def pz (a b : Int) : Value := .agg #[.int .i64 a, .int .i64 b]

end Go.Proofs.YtgjnllkbfjeihaaDoor
