/-
  JournalNone answers true.
-/
import Derived.Test.YtednmbiiacnpiaaGreatDoorBegun4
namespace Go.Proofs.YtednmbiiacnpiaaGreatDoor
open Go.RowKit Go.Maps Go.Proofs.MapD Go.Proofs.Chest

set_option maxRecDepth 100000 in
theorem jadd_nil (s : ByteArray) (p : Bool) (w : World) : Calls Tryz.prog 20 #[.pointer none, .string s, .bool p] w fun x w' => x = .returned (.int .i64 7) ∧ w = w' := by
  go_enter Tryz.func20, Tryz.ntmps20
  go_wp2_with fail
  refine (jrefuses_nil _ _).mono ?_
  rintro _ _ ⟨rfl, rfl⟩
  go_wp2_with fail
  go_ret
  exact ⟨rfl, rfl⟩

set_option maxRecDepth 100000 in
theorem jpress_nil (w : World) : Calls Tryz.prog 21 #[.pointer none] w fun x w' => x = .returned (.int .i64 7) ∧ w = w' := by
  go_enter Tryz.func21, Tryz.ntmps21
  go_wp2_with fail
  refine (jrefuses_nil _ _).mono ?_
  rintro _ _ ⟨rfl, rfl⟩
  go_wp2_with fail
  go_ret
  exact ⟨rfl, rfl⟩

set_option maxRecDepth 100000 in
theorem jlay_nil (s : ByteArray) (w : World) : Calls Tryz.prog 22 #[.pointer none, .string s] w fun x w' => x = .returned (.int .i64 7) ∧ w = w' := by
  go_enter Tryz.func22, Tryz.ntmps22
  go_wp2_with fail
  refine (jrefuses_nil _ _).mono ?_
  rintro _ _ ⟨rfl, rfl⟩
  go_wp2_with fail
  go_ret
  exact ⟨rfl, rfl⟩

theorem mk_zeros4 (n : Nat) (hn : n ≤ 1000000) (w : World) : (Instr.makeSlice 28 (.int .i64 (n : Int)) (.int .i64 (n : Int))).run Tryz.prog w = .ok (.slice (some ⟨w.heap.size, 0, none⟩) n n) (w.alloc (.cells (madeCells #[.int .u8 0] n) 5)) := by
  obtain ⟨i0, hi, hz0, hz1, hz2⟩ := info_parts infoRU8
  have := run_makeSlice (P := Tryz.prog) (w := w) 28 5 i0 (.int .u8 0) Tryz.underlying28 hi hz0 .i64 .i64 (n : Int) (n : Int) (by omega) (Int.le_refl _) (by rw [hz1]; omega) (by rw [hz2]; omega) (by omega)
  rw [hz1, Nat.mul_one] at this
  simpa [Value.cells] using this

theorem zeros_text4 (n : Nat) (hn : n ≤ 1000000) (w : World) : Text (w.alloc (.cells (madeCells #[.int .u8 0] n) 5)) (.slice (some ⟨w.heap.size, 0, none⟩) n n) (zeros n) := by
  have hs := zeros_size n
  refine ⟨by rw [Lib.strCells_length, Nat.mul_one], .inr ⟨w.heap.size, n, madeCells #[.int .u8 0] n, by rw [hs], Nat.zero_le _, heap_alloc_new w _, by omega, by unfold maxLen; omega, by rw [size_madeCells, Nat.mul_one], ?_⟩⟩
  rw [toList_madeCells_one, hs, Nat.mul_one, List.take_of_length_le (by simp)]
  unfold Lib.strCells zeros
  simp

theorem zeros_conv4 (n : Nat) (hn : n ≤ 1000000) (w : World) : (convert 28 9 (.slice (some ⟨w.heap.size, 0, none⟩) n n)).run Tryz.prog (w.alloc (.cells (madeCells #[.int .u8 0] n) 5)) = .ok (.string (zeros n)) (w.alloc (.cells (madeCells #[.int .u8 0] n) 5)) := by
  have := text_conv (zeros_text4 n hn w)
  exact this

theorem leaf_big : leafS (zeros 400001) = ⟨#[]⟩ := by
  unfold leafS
  rw [if_pos (by rw [zeros_size]; omega)]

set_option maxRecDepth 100000 in
set_option maxHeartbeats 4000000 in
theorem journalNone_walk (w : World) (hbg : BegunTrue4) (h : LibAt w) :
    Calls Tryz.prog 9 #[] w fun e w' => e = .returned (.bool true) ∧ Below w.heap.size w w' := by
  have HB := Lib.hid (hbg w h)
  have HL := Lib.hid h
  clear hbg h
  go_enter Tryz.func9, Tryz.ntmps9
  go_wp2_with fail
  refine HB.out.mono ?_
  rintro _ w1 ⟨rfl, hb⟩
  have HB1 := Lib.hid hb
  clear hb
  have hmk : ∀ w : World, (Instr.makeSlice 28 (.int .i64 400001) (.int .i64 400001)).run Tryz.prog w = .ok (.slice (some ⟨w.heap.size, 0, none⟩) 400001 400001) (w.alloc (.cells (madeCells #[.int .u8 0] 400001) 5)) := fun w => mk_zeros4 400001 (by omega) w
  have hcv := zeros_conv4 400001 (by omega) w1
  have hlf := leaf_big
  have JL := fun w2 (h2 : LibAt w2) => jleaf_p (zeros 400001) w2 h2
  rw [hlf] at JL
  have HJL := Lib.hid JL
  clear JL hlf
  generalize zeros 400001 = Z at *
  go_wp2_with (first
    | (go_at_call 25; refine (jfirst_nil _).mono ?_; rintro _ _ ⟨rfl, rfl⟩)
    | (go_at_call 24; refine (jrecords_nil _).mono ?_; rintro _ _ ⟨rfl, rfl⟩)
    | (go_at_call 20; refine (jadd_nil _ _ _).mono ?_; rintro _ _ ⟨rfl, rfl⟩)
    | (go_at_call 21; refine (jpress_nil _).mono ?_; rintro _ _ ⟨rfl, rfl⟩)
    | (go_at_call 22; refine (jlay_nil _ _).mono ?_; rintro _ _ ⟨rfl, rfl⟩)
    | (go_at_call 29; refine (jlong_nil _).mono ?_; rintro _ _ ⟨rfl, rfl⟩))
  have hb2 := HB1.out.alloc HB1.out.size (.cells (madeCells #[.int .u8 0] 400001) 5)
  refine (HJL.out _ (HL.out.below hb2)).mono ?_
  rintro _ w2 ⟨rfl, hb3⟩
  have HB2 := Lib.hid (hb2.trans (hb3.mono hb2.size))
  clear hb2 hb3
  go_wp2_with fail
  go_ret
  exact ⟨rfl, HB2.out⟩

end Go.Proofs.YtednmbiiacnpiaaGreatDoor
