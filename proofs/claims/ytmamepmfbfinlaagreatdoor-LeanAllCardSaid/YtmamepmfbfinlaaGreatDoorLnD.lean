/-
  The values with which the laws of lean begin are right.
-/
import Derived.Test.YtmamepmfbfinlaaGreatDoorLnS
import Derived.Test.YtmamepmfbfinlaaGreatDoorRosJ
import Derived.Test.YtmamepmfbfinlaaGreatDoorBegun
namespace Go.Proofs.YtmamepmfbfinlaaGreatDoor
open Go.RowKit Go.Proofs.Cpl

/-- That the values with which every law of lean begins are right. -/
def BegunTrue14 : Prop := ∀ w, LibAt w → Calls Tryz.prog 8 #[] w fun e w' => e = .returned (.bool true) ∧ Below w.heap.size w w'

theorem lnb1_p (w : World) (h : LibAt w) : Calls Tryz.prog 19 #[] w fun e w' => e = .returned (.bool true) ∧ Below w.heap.size w w' := by
  have HB := Lib.hid (begun_true w h)
  clear h
  go_enter Tryz.func19, Tryz.ntmps19
  go_wp2_with (go_at_call 28; refine HB.out.mono ?_; rintro _ w1 ⟨rfl, hb⟩)
  go_ret
  exact ⟨rfl, hb⟩

theorem lnb9_p (w : World) : Calls Tryz.prog 20 #[] w fun e w' => e = .returned (.bool true) ∧ Below w.heap.size w w' := by
  have HB := Lib.hid (begun9_p w)
  go_enter Tryz.func20, Tryz.ntmps20
  go_wp2_with (go_at_call 29; refine HB.out.mono ?_; rintro _ w1 ⟨rfl, hb⟩)
  go_ret
  exact ⟨rfl, hb⟩

def keyK : ByteArray := ⟨#[107]⟩

theorem keyK_size : keyK.size ≤ maxLen := by unfold maxLen; decide

theorem pick_31 : pickI (mkI keyK) [3, 1] 0 = 1 ∨ pickI (mkI keyK) [3, 1] 0 = 3 := by
  exact .inr (by kernel_rfl)

theorem cho_31 : choI [3, 1] 0 ≠ [] ∨ ([3, 1] : List Int) = [] := .inl (by
  rw [show choI [3, 1] 0 = [1, 3] by kernel_rfl]
  simp)

theorem isat2 (w : World) (x y : Int) : IsAt (w.alloc (.cells #[.int .i64 x, .int .i64 y] 3)) (.slice (some ⟨w.heap.size, 0, none⟩) 2 2) [x, y] := isat_two w x y

set_option maxRecDepth 100000 in
set_option maxHeartbeats 8000000 in
theorem begun14_true : BegunTrue14 := by
  intro w hlib
  have HL := Lib.hid hlib
  clear hlib
  go_enter Tryz.func8, Tryz.ntmps8
  go_wp2_with fail
  have HB0 : Hid (Below w.heap.size w ((w.alloc (.cells #[.int .i64 3, .int .i64 1] 3)).alloc (.cells #[.int .i64 1, .slice (some ⟨w.heap.size, 0, none⟩) 2 2, .int .i64 0] 24))) := Lib.hid (((Below.refl _ w).alloc (Nat.le_refl _) _).alloc (by simp) _)
  have HR : Hid (CB ((w.alloc (.cells #[.int .i64 3, .int .i64 1] 3)).alloc (.cells #[.int .i64 1, .slice (some ⟨w.heap.size, 0, none⟩) 2 2, .int .i64 0] 24)) (w.heap.size + 1) ⟨1, [3, 1], 0⟩ (some ⟨w.heap.size, 0, none⟩) 2 2) := Lib.hid (by
    have := cb_new (w.alloc (.cells #[.int .i64 3, .int .i64 1] 3)) ⟨1, [3, 1], 0⟩ (some ⟨w.heap.size, 0, none⟩) 2 (isat2 w 3 1)
    simpa using this)
  generalize (w.alloc (.cells #[.int .i64 3, .int .i64 1] 3)).alloc (.cells #[.int .i64 1, .slice (some ⟨w.heap.size, 0, none⟩) 2 2, .int .i64 0] 24) = W1 at *
  obtain ⟨⟨p0, p1, p2⟩, _⟩ := HR.out.c
  dsimp only at p0 p1 p2
  go_wp2_with fail
  refine (Pick_p 1 0 _ [3, 1] keyK keyK_size W1 HR.out.v (by simp) cho_31).mono ?_
  obtain ⟨P, hP⟩ : ∃ P, pickI (mkI keyK) [3, 1] 0 = P := ⟨_, rfl⟩
  have HP := Lib.hid (pick_31)
  rw [hP] at HP ⊢
  clear hP
  rintro _ W2 ⟨rfl, hb⟩
  replace HR := Lib.hid (HR.out.below hb)
  replace HB0 := Lib.hid (HB0.out.trans (hb.mono HB0.out.size))
  clear hb p0 p1 p2
  go_wp2_with fail
  refine (lnb1_p W2 (HL.out.below HB0.out)).mono ?_
  rintro _ W3 ⟨rfl, hb⟩
  replace HR := Lib.hid (HR.out.below hb)
  replace HB0 := Lib.hid (HB0.out.trans (hb.mono HB0.out.size))
  clear hb
  go_wp2_with fail
  refine (lnb9_p W3).mono ?_
  rintro _ W4 ⟨rfl, hb⟩
  replace HR := Lib.hid (HR.out.below hb)
  replace HB0 := Lib.hid (HB0.out.trans (hb.mono HB0.out.size))
  clear hb
  go_wp2_with fail
  refine (lweight_p 0 keyK keyK_size W4).mono ?_
  rw [wtI_out (z := mkI keyK) (n := 0) (by decide)]
  rintro _ W5 ⟨rfl, hb⟩
  replace HR := Lib.hid (HR.out.below hb)
  replace HB0 := Lib.hid (HB0.out.trans (hb.mono HB0.out.size))
  clear hb
  go_wp2_with fail
  refine (lweight_p 2 keyK keyK_size W5).mono ?_
  have hw2 := (wtI_in (z := mkI keyK) (n := 2) (by decide)).1
  generalize wtI (mkI keyK) 2 = X at *
  rintro _ W6 ⟨rfl, hb⟩
  replace HR := Lib.hid (HR.out.below hb)
  replace HB0 := Lib.hid (HB0.out.trans (hb.mono HB0.out.size))
  clear hb
  rcases HP.out with rfl | rfl
  all_goals
    go_wp2_with fail
    refine (Pick_p 0 0 _ [] keyK keyK_size W6 (.inl ⟨rfl, rfl⟩) (by simp) (.inr rfl)).mono ?_
    rw [show pickI (mkI keyK) [] 0 = 0 by unfold pickI; rw [choI_nil]; rfl]
    rintro _ W7 ⟨rfl, hb⟩
    replace HR := Lib.hid (HR.out.below hb)
    replace HB0 := Lib.hid (HB0.out.trans (hb.mono HB0.out.size))
    clear hb
    obtain ⟨⟨p0, p1, p2⟩, _⟩ := HR.out.c
    dsimp only at p0 p1 p2
    go_wp2_with fail
    refine (share_p 1 0 _ _ [3, 1] [] W7 HR.out.v (by simp) cho_31 (by decide) (.inl ⟨rfl, rfl⟩) (by simp) (by simp)).mono ?_
    rintro _ W8 ⟨a8, c8, rfl, _, hb⟩
    replace HB0 := Lib.hid (HB0.out.trans (hb.mono HB0.out.size))
    clear hb
    go_wp2_with fail
    go_ret
    exact ⟨rfl, HB0.out⟩

end Go.Proofs.YtmamepmfbfinlaaGreatDoor
