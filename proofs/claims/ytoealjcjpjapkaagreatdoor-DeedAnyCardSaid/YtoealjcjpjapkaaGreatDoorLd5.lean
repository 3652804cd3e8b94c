/-
 Contracts of the program, and what they rest on.
-/
import Derived.Test.YtoealjcjpjapkaaGreatDoorM03
import Derived.Test.YtoealjcjpjapkaaGreatDoorM16
import Derived.Test.YtoealjcjpjapkaaGreatDoorRA
import Derived.Test.YtoealjcjpjapkaaGreatDoorLdA
import Derived.Test.YtoealjcjpjapkaaGreatDoorRefDb
namespace Go.Proofs.YtoealjcjpjapkaaGreatDoor
open Go.RowKit
theorem cutD_wf {d : De} (h : d.wf) : (cutD d).wf := h
theorem cutD_bd (d : De) : (cutD d).key.size ≤ 42 ∧ (cutD d).body.size ≤ 302 ∧ (cutD d).tag.size ≤ 10 := ⟨cutS_size _ _, cutS_size _ _, cutS_size _ _⟩
theorem putD_w {w : World} {b : Nat} (hw : DeW w b) (d : De) : DeW ((((((((w.setCell ⟨b, 0, none⟩ (.int .i64 d.kind)).setCell ⟨b, 1, none⟩ (.string d.key)).setCell ⟨b, 2, none⟩ (.string d.body)).setCell ⟨b, 3, none⟩ (.int .i64 d.ver)).setCell ⟨b, 4, none⟩ (.int .i64 d.cond)).setCell ⟨b, 5, none⟩ (.string d.tag)).setCell ⟨b, 6, none⟩ (.int .i64 d.req)).setCell ⟨b, 7, none⟩ (.int .i64 d.low)) b := by
 obtain ⟨f0, f1, f2, f3, f4, f5, f6, f7⟩ := hw
 refine ⟨?_, ?_, ?_, ?_, ?_, ?_, ?_, ?_⟩ <;> go_simp
theorem both_may (d : De) : ∃ b : Bool, (b = true ↔ mayD d) ∧ (d.key.size ≤ 1000000 → d.wf → d.body.size ≤ 1000 → d.tag.size ≤ 1000 → ∃ t : ByteArray, t.size ≤ 10000022 ∧ ((t.size = 0) ↔ b = false) ∧ (b = true → t = putV 3 0 ⟨#[]⟩ d.parts) ∧
  (∀ w, LibAt w → Calls Tryz.prog 18 #[dagg d] w fun e w' => e = .returned (.bool b) ∧ Below w.heap.size w w') ∧
  (∀ w, Calls Tryz.prog 19 #[dagg d] w fun e w' => e = .returned (.bool b) ∧ Below w.heap.size w w') ∧
  (∀ w, LibAt w → Calls Tryz.prog 22 #[dagg d] w fun e w' => e = .returned (.string t) ∧ Below w.heap.size w w')) := by
 classical
 refine ⟨decide (mayD d), decide_eq_true_iff, fun hk hwf h2 h3 => ?_⟩
 have hb : decide (mayD d) = true ↔ mayD d := decide_eq_true_iff
 generalize decide (mayD d) = b at *
 refine ⟨if b then putV 3 0 ⟨#[]⟩ d.parts else ⟨#[]⟩, by split <;> first | exact putV_size _ _ _ _ | exact Nat.zero_le _, ?_, fun h => by rw [h]; rfl, fun w hl => dmay_p d b hb hwf w hl.1 hl.2.1, fun w => rmay_p d b hb hk w, fun w hl => dput_p d b hb hwf w hl.1 hl.2.1 hl.2.2.2⟩
 cases b with
 | false => exact ⟨fun _ => rfl, fun _ => rfl⟩
 | true =>
  have hbd := mayD_bd (hb.1 rfl)
  have := De.putV_pos hwf (by omega) (by omega) (by omega)
  constructor
  ·intro h; exact absurd h this
  ·intro h; cases h
theorem DeC.setBody {w : World} {b : Nat} {kind ver cond req low : Int} {key body tag : ByteArray} (h : DeC w b ⟨kind, key, body, ver, cond, tag, req, low⟩) (hw : DeW w b) (Z : ByteArray) :
  DeC (w.setCell ⟨b, 2, none⟩ (.string Z)) b ⟨kind, key, Z, ver, cond, tag, req, low⟩ := by
 obtain ⟨h0, h1, h2, h3, h4, h5, h6, h7⟩ := h
 obtain ⟨f0, f1, f2, f3, f4, f5, f6, f7⟩ := hw
 dsimp only at h0 h1 h2 h3 h4 h5 h6 h7
 refine ⟨?_, ?_, ?_, ?_, ?_, ?_, ?_, ?_⟩ <;> dsimp only <;> go_simp
def zeroT (n : Nat) : ByteArray := ⟨(List.replicate n (0 : UInt8)).toArray⟩
theorem zeroT_size (n : Nat) : (zeroT n).size = n := by
 show (List.replicate n (0 : UInt8)).toArray.size = n
 simp
theorem mk_zeros5 (n : Nat) (hn : n ≤ 1000000) (w : World) : (Instr.makeSlice 50 (.int .i64 (n : Int)) (.int .i64 (n : Int))).run Tryz.prog w = .ok (.slice (some ⟨w.heap.size, 0, none⟩) n n) (w.alloc (.cells (madeCells #[.int .u8 0] n) 5)) := by
 obtain ⟨i0, hi, hz0, hz1, hz2⟩ := info_parts infoU8
 have := run_makeSlice (P := Tryz.prog) (w := w) 50 5 i0 (.int .u8 0) Tryz.underlying50 hi hz0 .i64 .i64 (n : Int) (n : Int) (by omega) (Int.le_refl _) (by rw [hz1]; omega) (by rw [hz2]; omega) (by omega)
 rw [hz1, Nat.mul_one] at this
 simpa [Value.cells] using this
theorem zeroT_owns (n : Nat) (hn : n ≤ 1000000) (w : World) : (w.alloc (.cells (madeCells #[.int .u8 0] n) 5)).ownsRow 0 5 1 (.slice (some ⟨w.heap.size, 0, none⟩) n n) (zeroT n).size (Lib.strCells (zeroT n)) := by
 have hs := zeroT_size n
 refine ⟨by rw [Lib.strCells_length, Nat.mul_one], .inr ⟨w.heap.size, n, madeCells #[.int .u8 0] n, by rw [hs], Nat.zero_le _, heap_alloc_new w _, by omega, by unfold maxLen; omega, by rw [size_madeCells, Nat.mul_one], ?_⟩⟩
 rw [toList_madeCells_one, hs, Nat.mul_one, List.take_of_length_le (by simp)]
 unfold Lib.strCells zeroT
 simp
theorem zeros_conv5 (n : Nat) (hn : n ≤ 1000000) (w : World) : (convert 50 9 (.slice (some ⟨w.heap.size, 0, none⟩) n n)).run Tryz.prog (w.alloc (.cells (madeCells #[.int .u8 0] n) 5)) = .ok (.string (zeroT n)) (w.alloc (.cells (madeCells #[.int .u8 0] n) 5)) := conv_owned (zeroT_owns n hn w)
end Go.Proofs.YtoealjcjpjapkaaGreatDoor
