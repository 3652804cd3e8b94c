/-
  RollNone answers true.
-/
import Derived.Test.YtnobbfidngdmhaaGreatDoorRoll15
namespace Go.Proofs.YtnobbfidngdmhaaGreatDoor
open Go.RowKit Go.Maps Go.Proofs.MapD Go.Proofs.Chest

set_option maxRecDepth 100000 in
set_option maxHeartbeats 4000000 in
theorem rollNone_walk (w : World) (hbg : BegunTrue3) (h : LibAt w) :
    Calls Tryz.prog 6 #[] w fun e w' => e = .returned (.bool true) ∧ Below w.heap.size w w' := by
  have HB := Lib.hid (hbg w h)
  clear hbg h
  go_enter Tryz.func6, Tryz.ntmps6
  go_wp2_with fail
  refine (read_nil _ _).mono ?_
  rintro _ _ ⟨rfl, rfl⟩
  go_wp2_with fail
  refine HB.out.mono ?_
  rintro _ w1 ⟨rfl, hb⟩
  have HB1 := Lib.hid hb
  clear hb
  go_wp2_with (first
    | (go_at_call 16; refine (write_nil _ _ _).mono ?_; rintro _ _ ⟨rfl, rfl⟩)
    | (go_at_call 17; refine (press_nil _ _).mono ?_; rintro _ _ ⟨rfl, rfl⟩)
    | (go_at_call 22; refine (cut_nil _ _ _).mono ?_; rintro _ _ ⟨rfl, rfl⟩)
    | (go_at_call 18; refine (call_nil _ _ _).mono ?_; rintro _ _ ⟨rfl, rfl⟩)
    | (go_at_call 23; refine (pressed_nil _ _).mono ?_; rintro _ _ ⟨rfl, rfl⟩)
    | (go_at_call 20; refine (names_nil _).mono ?_; rintro _ _ ⟨rfl, rfl⟩)
    | (go_at_call 21; refine (room_nil _).mono ?_; rintro _ _ ⟨rfl, rfl⟩)
    | (go_at_call 13; refine (tear_nil _ _).mono ?_; rintro _ _ ⟨rfl, rfl⟩))
  go_ret
  exact ⟨rfl, HB1.out⟩

end Go.Proofs.YtnobbfidngdmhaaGreatDoor
