/-
  The frame of every law: the library's variables out of the row's condition, the witness, a post behind which the world has grown.
-/
import Derived.Test.YtmamepmfbfinlaaGreatDoorTie
import Derived.Test.YtmamepmfbfinlaaGreatDoorLaw1
import Derived.ProofKit
import Derived.LaidMore
import Derived.OpenShut
import Derived.Stop.Joined
import Derived.Stop.LaidErr
import Derived.Lib.LaidTab
import Derived.Lib.TrailingZeros
import Derived.SevenTiedAt
namespace Go.Proofs.YtmamepmfbfinlaaGreatDoor
open Go.ChangeShapes Go.WideShapes Go.ChangeAt Go.RowKit

theorem own : ownKnob Tryz.prog.godebug = none := by kernel_rfl

/-- What the rows list: each the same. -/
def laidAll : List (String × DataW Unit) := Rows.leanAllRow.laid

theorem door_met (os : Os) (args : Array Value) : laidMetH Tryz.prog laidAll ((World.doorLaid Tryz.prog 62 os).forCall (fun _ _ => 0) ⟨#[], args, []⟩).memory :=
  laidMetH_of_parts3 (fuel := 8) (laidMet_of_run' 8 (by kernel_rfl) (by kernel_rfl)) (by kernel_rfl) (by kernel_rfl)

theorem tab64 : (Rows.laid_math_bits_deBruijn64tab : DataW Unit) = Lib.tabData .u8 (Lib.deBruijn64tab.map Int.ofNat) := by kernel_rfl

theorem tabPow : (Rows.laid_internal_strconv_uint64pow10 : DataW Unit) = Lib.tabData .u64 Lib.pow10Tab := by kernel_rfl

theorem lib_of_laid {W : World} (h : laidMetH Tryz.prog laidAll W) : LibAt W := by
  rw [MakeChecks.laidMetH_plain _ _ _ (by kernel_rfl)] at h
  change laidMet _ (_ :: _ :: _ :: _ :: _ :: []) W at h
  have h2 := h.tail
  rw [tab64] at h2
  have ht := Lib.tabIs_of_head (g := 5) (by kernel_rfl) (by kernel_rfl) Tryz.underlying158 Tryz.underlying5 (by kernel_rfl) (by kernel_rfl) h2
  have hc := ht.cell (g := 5) (by kernel_rfl) 15 (by decide)
  have hp := h.tail.tail
  rw [tabPow] at hp
  have hpow := Lib.tabIs_of_head (g := 3) (by kernel_rfl) (by kernel_rfl) Tryz.underlying145 Tryz.underlying81 (by kernel_rfl) (by kernel_rfl) hp
  have h4 := h.tail.tail.tail
  obtain ⟨a4, s4, hv4, _, _, _⟩ := laid_sentinel (g := 2) (tp := 150) (te := 152) (ts := 9) h4 (by kernel_rfl) (by kernel_rfl) Tryz.underlying83 (fun u hu => typeName_ptr_named (nm := "errors.errorString") (by kernel_rfl) (by kernel_rfl) (by decide) u (hu.trans (congrArg some (by decide)))) Tryz.underlying150 Tryz.underlying152 rfl rfl Tryz.underlying9 (by kernel_rfl) (by kernel_rfl)
  have he4 := World.var?_cell (show Tryz.prog.globalNamed "strconv.ErrRange" = some 2 by kernel_rfl) hv4 0
  have he4' : W.cell? ⟨2, 0, none⟩ = some (.iface 150 (.pointer (some a4))) := by simpa using he4
  have h5 := h.tail.tail.tail.tail
  obtain ⟨a, s, hv, _, _, _⟩ := laid_sentinel (g := 1) (tp := 150) (te := 152) (ts := 9) h5 (by kernel_rfl) (by kernel_rfl) Tryz.underlying83 (fun u hu => typeName_ptr_named (nm := "errors.errorString") (by kernel_rfl) (by kernel_rfl) (by decide) u (hu.trans (congrArg some (by decide)))) Tryz.underlying150 Tryz.underlying152 rfl rfl Tryz.underlying9 (by kernel_rfl) (by kernel_rfl)
  have he := World.var?_cell (show Tryz.prog.globalNamed "strconv.ErrSyntax" = some 1 by kernel_rfl) hv 0
  have he' : W.cell? ⟨1, 0, none⟩ = some (.iface 150 (.pointer (some a))) := by simpa using he
  have hc' : W.cell? ⟨5, 15, none⟩ = some (.int .u8 4) := by rw [hc]; rfl
  exact ⟨⟨hc', World.block_lt_of_cell? W _ hc'⟩, ⟨⟨_, he', Or.inr ⟨_, _, rfl⟩⟩, World.block_lt_of_cell? W _ he'⟩, ⟨⟨_, he4', Or.inr ⟨_, _, rfl⟩⟩, World.block_lt_of_cell? W _ he4'⟩, hpow⟩


theorem wf_lo {a : Int} (h : (Lit.int .i64 a).wf = true) : -9223372036854775808 ≤ a := by
  have h1 : IntKind.i64.min ≤ a ∧ a ≤ IntKind.i64.max := by simpa [Lit.wf] using h
  have e1 : IntKind.i64.min = -9223372036854775808 := by decide
  rw [e1] at h1
  exact h1.1

theorem wf_hi {a : Int} (h : (Lit.int .i64 a).wf = true) : a ≤ 9223372036854775807 := by
  have h1 : IntKind.i64.min ≤ a ∧ a ≤ IntKind.i64.max := by simpa [Lit.wf] using h
  have e1 : IntKind.i64.max = 9223372036854775807 := by decide
  rw [e1] at h1
  exact h1.2

theorem wf8_lo {a : Int} (h : (Lit.int .u8 a).wf = true) : 0 ≤ a := by
  have h1 : IntKind.u8.min ≤ a ∧ a ≤ IntKind.u8.max := by simpa [Lit.wf] using h
  have e1 : IntKind.u8.min = 0 := by decide
  rw [e1] at h1
  exact h1.1

theorem wf8_hi {a : Int} (h : (Lit.int .u8 a).wf = true) : a ≤ 255 := by
  have h1 : IntKind.u8.min ≤ a ∧ a ≤ IntKind.u8.max := by simpa [Lit.wf] using h
  have e1 : IntKind.u8.max = 255 := by decide
  rw [e1] at h1
  exact h1.2

end Go.Proofs.YtmamepmfbfinlaaGreatDoor
