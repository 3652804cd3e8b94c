/-
  Contracts of the program, and what they rest on.
-/
import Derived.Laws.Rows
import Derived.Test.YtcnbgpgbeibakabGreatDoorRChJ
import Derived.Test.YtcnbgpgbeibakabGreatDoorChP
import Derived.Test.YtcnbgpgbeibakabGreatDoorChO
namespace Go.Proofs.YtcnbgpgbeibakabGreatDoor
open Go.RowKit Go.Maps Go.Proofs.MapD Go.Proofs.Chest
theorem iown_three (w : World) (x y z : Int) : IOwn (w.alloc (.cells #[.int .i64 x, .int .i64 y, .int .i64 z] 3)) w.heap.size (.slice (some ⟨w.heap.size, 0, none⟩) 3 3) [x, y, z] :=
  ⟨rfl, .inr ⟨w.heap.size, 3, #[.int .i64 x, .int .i64 y, .int .i64 z], rfl, Nat.le_refl _, heap_alloc_new w _, Nat.le_refl _, by unfold maxLen; omega, rfl, rfl⟩⟩
theorem IOwn.three {w : World} {B b n cap : Nat} {x y z : Int} (h : IOwn w B (.slice (Option.some ⟨b, 0, none⟩) n cap) [x, y, z]) : w.cell? ⟨b, 0, none⟩ = Option.some (.int .i64 x) ∧ w.cell? ⟨b, 1, none⟩ = Option.some (.int .i64 y) ∧ w.cell? ⟨b, 2, none⟩ = Option.some (.int .i64 z) ∧ b < w.heap.size := by
  rcases h.at with ⟨h1, _⟩ | ⟨g, o, c, h1, _, _, h3, h4⟩
  · cases h1
  · injection h1 with h1 _ _
    injection h1 with h1
    injection h1 with e1 e2 _
    subst e1 e2
    exact ⟨by simpa using h4 0 x rfl, by simpa using h4 1 y rfl, by simpa using h4 2 z rfl, h3⟩
theorem own_roster {w0 W : World} {x j c R : Nat} {s : Cs} {L : List It} (h : CK w0 W x j c R s L) (hs : s.r = ⟨2, [1, 2, 3], 0⟩) :
    Calls Tryz.prog 11 #[.pointer (some ⟨x, 0, none⟩)] W fun y w' => ∃ b cap, y = .returned (.agg #[.int .i64 2, .slice (some ⟨b, 0, none⟩) 3 cap, .int .i64 0]) ∧ IOwn w' W.heap.size (.slice (some ⟨b, 0, none⟩) 3 cap) [1, 2, 3] ∧ Below W.heap.size W w' := by
  obtain ⟨v, v', hc, hv, _, hl⟩ := h.chief
  have h1 := croster_p hc hv (by omega)
  rw [hs] at h1
  refine h1.mono ?_
  rintro y w' ⟨ad, cap, rfl, ho, hb⟩
  obtain ⟨b, rfl⟩ := IOwn.some ho
  exact ⟨b, cap, rfl, ho, hb⟩
def ow0 : Cs := beginS ⟨2, [1, 2, 3], 0⟩ 0 0
def ow1 : Cs := (stepS ow0 1 2 0 0 1).1
theorem ow_step : stepS ow0 1 2 0 0 1 = (ow1, some (2, 7)) := by kernel_rfl
theorem ow1_r : ow1.r = ⟨2, [1, 2, 3], 0⟩ := by kernel_rfl
set_option maxRecDepth 100000 in
set_option maxHeartbeats 16000000 in
theorem chiefOwn_walk (w : World) (hB : BegunTrue10) (hlib : LibAt w) : Calls Tryz.prog 4 #[] w fun e w' => e = .returned (.bool true) ∧ Below w.heap.size w w' := by
  have HB := Lib.hid (hB w hlib)
  have HL := Lib.hid hlib
  clear hB hlib
  go_enter Tryz.func4, Tryz.ntmps4
  go_wp2_with fail
  refine HB.out.mono ?_
  rintro _ w1 ⟨rfl, hb1⟩
  have h2 := (((Sp.start w).below hb1).ioNew ((Below.refl _ _).alloc (Nat.le_refl _) _) (iown_three w1 1 2 3)).rxNew 2 0 (.slice (some ⟨w1.heap.size, 0, none⟩) 3 3)
  rw [show (w1.alloc (.cells #[.int .i64 1, .int .i64 2, .int .i64 3] 3)).heap.size = w1.heap.size + 1 by simp] at h2
  have H2 := Lib.hid h2
  clear h2 hb1 HB
  go_wp2_with fail
  generalize World.alloc (World.alloc w1 _) _ = W1 at *
  generalize w1.heap.size = RX at *
  have HSS : Hid (∀ (W' : World) (L' : List It), Sp w W' (rx (RX + 1) 2 (.slice (some ⟨RX, 0, none⟩) 3 3) 0 :: L') → W'.cell? ⟨RX + 1, 0, none⟩ = some (.int .i64 2) ∧ W'.cell? ⟨RX + 1, 1, none⟩ = some (.slice (some ⟨RX, 0, none⟩) 3 3) ∧ W'.cell? ⟨RX + 1, 2, none⟩ = some (.int .i64 0)) := Lib.hid (fun W' L' h => h.rx.rc.1)
  have hS0 := HSS.out W1.drew _ (H2.out.below (Below.refl _ W1).drew)
  refine wp_region_held (S := fun W' : World => W'.cell? ⟨RX + 1, 0, none⟩ = some (.int .i64 2) ∧ W'.cell? ⟨RX + 1, 1, none⟩ = some (.slice (some ⟨RX, 0, none⟩) 3 3) ∧ W'.cell? ⟨RX + 1, 2, none⟩ = some (.int .i64 0)) (by kernel_rfl) ?_
  change wpAnyH _ _ _ _ _ _ _ _ (World.drew _)
  refine wpAnyH_take (i := 1) (v := Value.agg #[.int .i64 2, .slice (some ⟨RX, 0, none⟩) 3 3, .int .i64 0]) rfl (by kernel_rfl) (by kernel_rfl) (by kernel_rfl) (fun _ _ _ h => h) (Or.inl ⟨by rfl, ?_⟩) hS0 ?_
  · intro w' ⟨s1, s2, s3⟩; go_simp
  simp only [List.getElem_toArray, List.getElem_cons_succ, List.getElem_cons_zero, Act.put, List.setIfInBounds_toArray, List.set_cons_zero, List.set_cons_succ]
  clear hS0
  refine wpAnyH_ready (rs := [0]) (by kernel_rfl) (by simp) ?_
  refine AllReadyH.cons rfl (fun K hK => ?_) AllReadyH.nil
  simp only [List.getElem_toArray, List.getElem_cons_zero]
  go_simp
  refine (s_new 1048576 (H2.out.below (Below.refl _ W1).drew)).mono ?_
  rintro _ w4 ⟨c, rfl, h4⟩
  rw [r_new] at h4
  have H4 := Lib.hid (h4.perm (.cons _ (.swap _ _ _)))
  refine hK.out _ _ (HSS.out w4 _ h4.drop) (fun _ => ?_)
  clear hK h4 H2
  refine wpAnyH_ready (rs := [2]) (by kernel_rfl) (by simp) ?_
  refine AllReadyH.cons rfl (fun K hK => ?_) AllReadyH.nil
  simp only [List.getElem_toArray, List.getElem_cons_succ, List.getElem_cons_zero]
  go_simp
  refine (open_newo H4.out (by decide) (by kernel_rfl) HL.out 0).mono ?_
  rintro _ w5 ⟨x, j, rfl, h5⟩
  have H5 : Hid (CK w w5 x j c 1048576 ow0 [io (.slice (some ⟨RX, 0, none⟩) 3 3) [1, 2, 3], rx (RX + 1) 2 (.slice (some ⟨RX, 0, none⟩) 3 3) 0]) := Lib.hid h5
  have hS0 : (fun W' : World => W'.cell? ⟨RX + 1, 0, none⟩ = some (.int .i64 2) ∧ W'.cell? ⟨RX + 1, 1, none⟩ = some (.slice (some ⟨RX, 0, none⟩) 3 3) ∧ W'.cell? ⟨RX + 1, 2, none⟩ = some (.int .i64 0)) w5 := by
    obtain ⟨F, h6, _⟩ := h5.mem (i := rx (RX + 1) 2 (.slice (some ⟨RX, 0, none⟩) 3 3) 0) (by simp)
    exact RH.rc h6 |>.1
  refine hK.out _ _ hS0 (fun hS0 => ?_)
  clear hK h5 H4
  refine wpAnyH_take (i := 3) (v := Value.tuple #[.pointer (some ⟨x, 0, none⟩), .int .i64 0]) rfl (by kernel_rfl) (by kernel_rfl) (by kernel_rfl) (fun _ _ _ h => h) (Or.inl ⟨by rfl, ?_⟩) hS0 ?_
  · intro w' ⟨s1, s2, s3⟩; go_simp
  refine wpAnyH_take (i := 4) (v := Value.pointer (some ⟨x, 0, none⟩)) rfl (by kernel_rfl) (by kernel_rfl) (by kernel_rfl) (fun _ _ _ h => h) (Or.inl ⟨by rfl, ?_⟩) hS0 ?_
  · intro w' ⟨s1, s2, s3⟩; go_simp
  refine wpAnyH_take (i := 5) (v := Value.int .i64 0) rfl (by kernel_rfl) (by kernel_rfl) (by kernel_rfl) (fun _ _ _ h => h) (Or.inl ⟨by rfl, ?_⟩) hS0 ?_
  · intro w' ⟨s1, s2, s3⟩; go_simp
  simp only [List.getElem_toArray, List.getElem_cons_succ, List.getElem_cons_zero, Act.put, List.setIfInBounds_toArray, List.set_cons_zero, List.set_cons_succ]
  refine wpAnyH_ready (rs := [6]) (by kernel_rfl) (by simp) ?_
  refine AllReadyH.cons rfl (fun K hK => ?_) AllReadyH.nil
  simp only [List.getElem_toArray, List.getElem_cons_succ, List.getElem_cons_zero]
  go_simp
  refine hK.out _ _ hS0 (fun hS0 => ?_)
  clear hK
  refine wpAnyH_ready (rs := [7]) (by kernel_rfl) (by simp) ?_
  refine AllReadyH.cons rfl (fun K hK => ?_) AllReadyH.nil
  simp only [List.getElem_toArray, List.getElem_cons_succ, List.getElem_cons_zero]
  go_simp
  refine hK.out _ _ hS0 (fun hS0 => ?_)
  clear hK
  refine wpAnyH_done (by kernel_rfl) ?_ _
  obtain ⟨_, hio5, _⟩ := H5.out.mem (i := io (.slice (some ⟨RX, 0, none⟩) 3 3) [1, 2, 3]) (by simp)
  obtain ⟨⟨_, e5⟩, f5⟩ := hio5.cell (k := 0) (by decide)
  obtain ⟨_, hS1, _⟩ := hS0
  have H6 := Lib.hid (H5.out.ioSet 0 (.int .i64 5))
  have hw1 := ow_step
  have hw2 := ow1_r
  have HW1 := Lib.hid hw1
  have HW2 := Lib.hid hw2
  clear hio5 H5 HSS hw1 hw2
  go_wp2_with fail
  clear e5 f5 hS1
  generalize w5.setCell _ _ = W6 at *
  refine (own_roster H6.out rfl).mono ?_
  rintro _ w7 ⟨b7, c7, rfl, ho7, hb7⟩
  obtain ⟨e70, e71, e72, l7⟩ := ho7.three
  obtain ⟨_, f7⟩ := ho7.cell (k := 1) (by decide)
  have H8 := Lib.hid ((H6.out.ioNew hb7 ho7).ioSet 1 (.int .i64 4))
  have H9 := Lib.hid (H8.out.below ((Below.refl _ _).alloc (Nat.le_refl _) (.cells #[.int .i64 2, .slice (some ⟨b7, 0, none⟩) 3 c7, .int .i64 0] 31)))
  clear ho7 hb7 H6 H8
  go_wp2_with fail
  clear e70 e71 e72 l7 f7
  generalize World.alloc (World.setCell w7 _ _) _ = W9 at *
  refine (step_o H9.out (by decide) HL.out 1 2 0 0 Wq.zero 1 (by decide) (by decide)).mono ?_
  rw [HW1.out]
  rintro _ w10 ⟨u, rfl, hq⟩
  obtain ⟨g10, a10, c10, rfl, h10⟩ := hq
  have H10 : Hid (CK w w10 x j c 1048576 ow1 [wx g10 (wcells 2 7 ⟨2, [1, 2, 3], 0⟩ a10 c10), io (.slice a10 3 c10) [1, 2, 3], rx (RX + 1) 2 (.slice (some ⟨RX, 0, none⟩) 3 3) 0]) := Lib.hid h10
  clear h10 H9
  obtain ⟨_, hio10, _⟩ := H10.out.mem (i := io (.slice a10 3 c10) [1, 2, 3]) (by simp)
  obtain ⟨b10, rfl⟩ := IOwn.some hio10
  obtain ⟨_, hwx10, _⟩ := H10.out.mem (i := wx g10 (wcells 2 7 ⟨2, [1, 2, 3], 0⟩ (some ⟨b10, 0, none⟩) c10)) (by simp)
  have e10 : w10.cell? ⟨g10, 10, none⟩ = some (.slice (some ⟨b10, 0, none⟩) 3 c10) := by
    rw [cell_block hwx10]
    rfl
  obtain ⟨_, _, e12, l10⟩ := hio10.three
  obtain ⟨_, f10⟩ := hio10.cell (k := 2) (by decide)
  have H11 := Lib.hid (H10.out.dropI.ioSet 2 (.int .i64 5))
  clear hio10 hwx10 H10 HW1
  go_wp2_with fail
  clear e10 e12 l10 f10
  generalize w10.setCell _ _ = W11 at *
  refine (own_roster H11.out HW2.out).mono ?_
  rintro _ w12 ⟨b12, c12, rfl, ho12, hb12⟩
  obtain ⟨e0, e1, e2, l12⟩ := ho12.three
  have H12 := Lib.hid (H11.out.bl.trans (hb12.mono H11.out.bl.size))
  clear ho12 hb12 H11
  go_wp2_with fail
  go_ret
  first
    | exact ⟨rfl, H12.out⟩
    | exact ⟨rfl, H12.out.alloc H12.out.size _⟩
end Go.Proofs.YtcnbgpgbeibakabGreatDoor
