/-
  The contract of the law's reads: whatever the text, the program's Read and the document's agree.
-/
import Derived.Test.YtamennoehnigaaaDoorMark
namespace Go.Proofs.YtamennoehnigaaaDoor
open Go.RowKit Go.Proofs.Flo Go.Proofs.Cpl

set_option maxRecDepth 100000 in
set_option maxHeartbeats 1000000 in
theorem reads_any (t : ByteArray) (w : World) (h : LibAt w) :
    Calls Tryd.prog 37 #[.string t] w fun e w' => e = .returned (.bool true) ∧ Below w.heap.size w w' := by
  by_cases hy : ∃ p, IsText t p
  · obtain ⟨p, hp⟩ := hy
    have R1 := Lib.hid (gread_yes t p hp w h.1 h.2.1)
    have R2 := Lib.hid (rread t)
    have e1 := self_ok hp.1
    have Z := Lib.hid (z_p p hp.1)
    have HP := Lib.hid hp
    clear hp h
    go_enter Tryd.func37, Tryd.ntmps37
    go_wp2_with fail
    refine R1.out.mono ?_
    rintro _ w1 ⟨rfl, hb1⟩
    go_wp2_with fail
    refine (R2.out w1).mono ?_
    rintro _ w2 ⟨q, ok, rfl, h1, _, hb2⟩
    obtain ⟨rfl, rfl⟩ := h1 p HP.out
    clear h1
    go_wp2_with fail
    refine (Z.out _).mono ?_
    rintro _ w3 ⟨rfl, hb3⟩
    go_wp2_with fail
    go_ret
    have s1 := hb1.size
    have s2 := hb2.size
    have s3 := hb3.size
    simp only [World.size_alloc] at s3
    exact ⟨rfl, ((hb1.trans (hb2.mono (by omega))).alloc (by omega) _).trans (hb3.mono (by simp only [World.size_alloc]; omega))⟩
  · have hno : ∀ p, ¬ IsText t p := fun p hp => hy ⟨p, hp⟩
    have R1 := Lib.hid (gread_no t hno w h.1 h.2.1)
    have R2 := Lib.hid (rread t)
    have HN := Lib.hid hno
    have e1 : (FloatKind.f64.format.order 0 0 == some .eq) = true := by decide
    have Z : Hid (∀ w, Calls Tryd.prog 21 #[.agg #[.int .i64 0, .int .i64 0]] w fun e w' => e = .returned (.complex .f64 0 0) ∧ Below w.heap.size w w') := Lib.hid (by
      intro w
      have h := z_p (0, 0) (by unfold Ok; decide) w
      simp only [fk_zero] at h
      exact h)
    clear hno h hy
    go_enter Tryd.func37, Tryd.ntmps37
    go_wp2_with fail
    refine R1.out.mono ?_
    rintro _ w1 ⟨rfl, hb1⟩
    go_wp2_with fail
    refine (R2.out w1).mono ?_
    rintro _ w2 ⟨q, ok, rfl, _, h1, hb2⟩
    obtain ⟨rfl, rfl⟩ := h1 HN.out
    clear h1
    go_wp2_with fail
    refine (Z.out _).mono ?_
    rintro _ w3 ⟨rfl, hb3⟩
    go_wp2_with fail
    go_ret
    have s1 := hb1.size
    have s2 := hb2.size
    have s3 := hb3.size
    simp only [World.size_alloc] at s3
    exact ⟨rfl, ((hb1.trans (hb2.mono (by omega))).alloc (by omega) _).trans (hb3.mono (by simp only [World.size_alloc]; omega))⟩

end Go.Proofs.YtamennoehnigaaaDoor
