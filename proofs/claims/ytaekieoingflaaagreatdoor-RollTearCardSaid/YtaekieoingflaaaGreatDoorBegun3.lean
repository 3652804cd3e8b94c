/-
  The values with which the laws of roll begin are right.
-/
import Derived.Test.YtaekieoingflaaaGreatDoorRoll13
import Derived.Test.YtaekieoingflaaaGreatDoorBegun
namespace Go.Proofs.YtaekieoingflaaaGreatDoor
open Go.RowKit Go.Maps Go.Proofs.MapD Go.Proofs.Chest

/-- That the values with which every law of roll begins are right. -/
def BegunTrue3 : Prop := ∀ w, LibAt w → Calls Tryz.prog 7 #[] w fun e w' => e = .returned (.bool true) ∧ Below w.heap.size w w'

theorem begun1_p (w : World) (h : LibAt w) : Calls Tryz.prog 26 #[] w fun e w' => e = .returned (.bool true) ∧ Below w.heap.size w w' := by
  have HB := Lib.hid (begun_true w h)
  clear h
  go_enter Tryz.func26, Tryz.ntmps26
  go_wp2_with (go_at_call 59; refine HB.out.mono ?_; rintro _ w1 ⟨rfl, hb⟩)
  go_ret
  exact ⟨rfl, hb⟩

def nA : ByteArray := ⟨#[65]⟩
def nB : ByteArray := ⟨#[66]⟩
def sXYZ : ByteArray := ⟨#[120, 121, 122]⟩
def sXY : ByteArray := ⟨#[120, 121]⟩
def b1 : St := ⟨47, [(nA, ⟨sXYZ, 0, false⟩)]⟩
def b2 : St := ⟨47, [(nA, ⟨sXYZ, 3, true⟩)]⟩
def b3 : St := ⟨48, [(nA, ⟨sXY, 2, true⟩)]⟩
def b4 : St := ⟨48, [(nB, ⟨sXY, 2, true⟩)]⟩

theorem ext2 : sXYZ.extract 0 2 = sXY := by kernel_rfl
theorem x_new : (⟨(min (max (50 : Int) 0) 1048576).toNat, []⟩ : St) = ⟨50, []⟩ := by kernel_rfl
theorem x_w1 : write ⟨50, []⟩ ⟨#[65]⟩ ⟨#[120, 121, 122]⟩ = (0, b1) := by kernel_rfl
theorem x_w2 : write b1 ⟨#[97]⟩ ⟨#[]⟩ = (1, b1) := by kernel_rfl
theorem x_t2 : readS (tear b1 2) ⟨#[65]⟩ = (⟨#[120, 121]⟩, true) := by kernel_rfl
theorem x_t0 : readS (tear b1 0) ⟨#[65]⟩ = (⟨#[]⟩, false) := by kernel_rfl
theorem x_p : press b1 ⟨#[65]⟩ = (0, b2) := by kernel_rfl
theorem x_c : cut b2 ⟨#[65]⟩ 2 = (0, b3) := by kernel_rfl
theorem x_k : call b3 ⟨#[65]⟩ ⟨#[66]⟩ = (0, b4) := by kernel_rfl
theorem x_t1 : readS (tear b4 (-1)) ⟨#[66]⟩ = (⟨#[120, 121]⟩, true) := by kernel_rfl
theorem x_pr : pressedS b4 ⟨#[66]⟩ = 2 := by kernel_rfl

/-- So many noughts. -/
def zeros (n : Nat) : ByteArray := ⟨(List.replicate n (0 : UInt8)).toArray⟩

theorem zeros_size (n : Nat) : (zeros n).size = n := by
  show (List.replicate n (0 : UInt8)).toArray.size = n
  simp

theorem x_w3 : write b4 ⟨#[67]⟩ (zeros 49) = (5, b4) := by kernel_rfl

theorem mk_zeros (n : Nat) (hn : n ≤ 100000) (w : World) : (Instr.makeSlice 50 (.int .i64 (n : Int)) (.int .i64 (n : Int))).run Tryz.prog w = .ok (.slice (some ⟨w.heap.size, 0, none⟩) n n) (w.alloc (.cells (madeCells #[.int .u8 0] n) 5)) := by
  obtain ⟨i0, hi, hz0, hz1, hz2⟩ := info_parts infoRU8
  have := run_makeSlice (P := Tryz.prog) (w := w) 50 5 i0 (.int .u8 0) Tryz.underlying50 hi hz0 .i64 .i64 (n : Int) (n : Int) (by omega) (Int.le_refl _) (by rw [hz1]; omega) (by rw [hz2]; omega) (by omega)
  rw [hz1, Nat.mul_one] at this
  simpa [Value.cells] using this

theorem zeros_text (n : Nat) (hn : n ≤ 100000) (w : World) : Text (w.alloc (.cells (madeCells #[.int .u8 0] n) 5)) (.slice (some ⟨w.heap.size, 0, none⟩) n n) (zeros n) := by
  have hs := zeros_size n
  refine ⟨by rw [Lib.strCells_length, Nat.mul_one], .inr ⟨w.heap.size, n, madeCells #[.int .u8 0] n, by rw [hs], Nat.zero_le _, heap_alloc_new w _, by omega, by unfold maxLen; omega, by rw [size_madeCells, Nat.mul_one], ?_⟩⟩
  rw [toList_madeCells_one, hs, Nat.mul_one, List.take_of_length_le (by simp)]
  unfold Lib.strCells zeros
  simp

theorem zeros_conv (n : Nat) (hn : n ≤ 100000) (w : World) : (convert 50 9 (.slice (some ⟨w.heap.size, 0, none⟩) n n)).run Tryz.prog (w.alloc (.cells (madeCells #[.int .u8 0] n) 5)) = .ok (.string (zeros n)) (w.alloc (.cells (madeCells #[.int .u8 0] n) 5)) := by
  have := text_conv (zeros_text n hn w)
  exact this

theorem xy_list : (⟨#[120, 121]⟩ : ByteArray).toList = [120, 121] := by rw [ByteArray.toList_eq]

set_option maxRecDepth 100000 in
set_option maxHeartbeats 4000000 in
theorem begun3_true : BegunTrue3 := by
  intro w hL
  have HL := Lib.hid hL
  have q1 := xy_list
  clear hL
  go_enter Tryz.func7, Tryz.ntmps7
  go_wp2_with fail
  refine (new_c 50 (Below.refl _ w)).mono ?_
  rintro _ w1 ⟨c, rfl, h1⟩
  rw [x_new] at h1
  have H1 := Lib.hid h1
  clear h1
  go_wp2_with fail
  refine (write_c H1.out (by decide) ⟨#[65]⟩ ⟨#[120, 121, 122]⟩ (by decide)).mono ?_
  rintro _ w2 ⟨rfl, h2⟩
  rw [x_w1] at h2 ⊢
  have H2 := Lib.hid h2
  clear h2
  go_wp2_with fail
  refine (write_c H2.out (by decide) ⟨#[97]⟩ ⟨#[]⟩ (by decide)).mono ?_
  rintro _ w3 ⟨rfl, h3⟩
  rw [x_w2] at h3 ⊢
  have H3 := Lib.hid h3
  clear h3
  go_wp2_with fail
  refine (tear_c H3.out (by decide) 2).mono ?_
  rintro _ w4 ⟨d1, rfl, h4, h4'⟩
  have H4 := Lib.hid h4
  have H4' := Lib.hid h4'
  clear h4 h4'
  go_wp2_with fail
  refine (read_c H4'.out ⟨#[65]⟩ (by decide)).mono ?_
  rintro _ _ ⟨rfl, rfl⟩
  rw [x_t2]
  go_wp2_with fail
  refine (tear_c H4.out (by decide) 0).mono ?_
  rintro _ w5 ⟨d2, rfl, h5, h5'⟩
  have H5 := Lib.hid h5
  have H5' := Lib.hid h5'
  clear h5 h5'
  go_wp2_with fail
  refine (read_c H5'.out ⟨#[65]⟩ (by decide)).mono ?_
  rintro _ _ ⟨rfl, rfl⟩
  rw [x_t0]
  go_wp2_with fail
  refine (press_c H5.out ⟨#[65]⟩ (by decide)).mono ?_
  rintro _ w6 ⟨rfl, h6⟩
  rw [x_p] at h6 ⊢
  have H6 := Lib.hid h6
  clear h6
  go_wp2_with fail
  refine (cut_c H6.out ⟨#[65]⟩ (by decide) 2).mono ?_
  rintro _ w7 ⟨rfl, h7⟩
  rw [x_c] at h7 ⊢
  have H7 := Lib.hid h7
  clear h7
  go_wp2_with fail
  refine (call_c H7.out (by decide) ⟨#[65]⟩ ⟨#[66]⟩ (by decide) (by decide)).mono ?_
  rintro _ w8 ⟨rfl, h8⟩
  rw [x_k] at h8 ⊢
  have H8 := Lib.hid h8
  clear h8
  go_wp2_with fail
  refine (tear_c H8.out (by decide) (-1)).mono ?_
  rintro _ w9 ⟨d3, rfl, h9, h9'⟩
  have H9 := Lib.hid h9
  have H9' := Lib.hid h9'
  clear h9 h9'
  go_wp2_with fail
  refine (read_c H9'.out ⟨#[66]⟩ (by decide)).mono ?_
  rintro _ _ ⟨rfl, rfl⟩
  rw [x_t1]
  go_wp2_with fail
  refine (begun1_p w9 (HL.out.below H9.out.2)).mono ?_
  rintro _ w10 ⟨rfl, hb⟩
  have H10 := Lib.hid (H9.out.below hb)
  clear hb
  go_wp2_with fail
  refine (pressed_c H10.out ⟨#[66]⟩ (by decide)).mono ?_
  rintro _ _ ⟨rfl, rfl⟩
  rw [x_pr]
  go_wp2_with fail
  refine (room_c H10.out).mono ?_
  rintro _ _ ⟨rfl, rfl⟩
  have hmk : ∀ w : World, (Instr.makeSlice 50 (.int .i64 49) (.int .i64 49)).run Tryz.prog w = .ok (.slice (some ⟨w.heap.size, 0, none⟩) 49 49) (w.alloc (.cells (madeCells #[.int .u8 0] 49) 5)) := fun w => mk_zeros 49 (by decide) w
  have hcv := zeros_conv 49 (by decide) w10
  go_wp2_with fail
  have hb11 := (Below.refl w10.heap.size w10).alloc (Nat.le_refl _) (.cells (madeCells #[.int .u8 0] 49) 5)
  refine (write_c (H10.out.below hb11) (by decide) ⟨#[67]⟩ (zeros 49) (by decide)).mono ?_
  rintro _ w11 ⟨rfl, h11⟩
  rw [x_w3] at h11 ⊢
  have H11 := Lib.hid h11
  clear h11 hb11
  go_wp2_with fail
  go_ret
  exact ⟨rfl, H11.out.2⟩

end Go.Proofs.YtaekieoingflaaaGreatDoor
