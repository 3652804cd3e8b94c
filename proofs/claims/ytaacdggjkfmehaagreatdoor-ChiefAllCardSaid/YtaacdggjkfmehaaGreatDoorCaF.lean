/-
  Contracts of the program, and what they rest on.
-/
import Derived.Test.YtaacdggjkfmehaaGreatDoorM22
import Derived.Test.YtaacdggjkfmehaaGreatDoorM03
import Derived.Test.YtaacdggjkfmehaaGreatDoorM02
import Derived.Deep.QuietTactic
import Derived.BigQuiet
import Derived.Test.YtaacdggjkfmehaaGreatDoorProg
import Derived.WalkKit
import Derived.WalkSpells
import Derived.WalkLawsBesides
import Derived.Lib.Hide
import Derived.Deep.RegionLaw
import Derived.Deep.RegionHeld3
import Derived.BigRegion
import Derived.Test.YtaacdggjkfmehaaGreatDoorRRosF
import Derived.Test.YtaacdggjkfmehaaGreatDoorHeldS
import Derived.Test.YtaacdggjkfmehaaGreatDoorEqlS
namespace Go.Proofs.YtaacdggjkfmehaaGreatDoor
open Go.RowKit Go.Maps Go.Proofs.MapD Go.Proofs.Chest
def LsAt (w : World) (g : Nat) (to un : Int) (r : Ro) (u : Value) : Prop :=
  w.cell? ⟨g, 0, none⟩ = some (.int .i64 2) ∧ w.cell? ⟨g, 1, none⟩ = some (.int .i64 0) ∧ w.cell? ⟨g, 2, none⟩ = some (.int .i64 to) ∧ w.cell? ⟨g, 3, none⟩ = some (.int .i64 0) ∧ w.cell? ⟨g, 4, none⟩ = some (.int .i64 0) ∧ w.cell? ⟨g, 5, none⟩ = some (.int .i64 0) ∧
  w.cell? ⟨g, 6, none⟩ = some (.int .i64 un) ∧ w.cell? ⟨g, 9, none⟩ = some (.int .i64 r.ep) ∧ w.cell? ⟨g, 10, none⟩ = some u ∧ w.cell? ⟨g, 11, none⟩ = some (.int .i64 r.nw) ∧ w.cell? ⟨g, 12, none⟩ = some (.slice none 0 0) ∧ IsAt w u r.l
theorem LsAt.of {w : World} {g : Nat} {to un : Int} {r : Ro} {ad : Option Addr} {cap : Nat} (h : w.heap[g]? = some (.cells (wcells to un r ad cap) 46 (0, 0))) (hi : IsAt w (.slice ad r.l.length cap) r.l) : LsAt w g to un r (.slice ad r.l.length cap) := by
  refine ⟨?_, ?_, ?_, ?_, ?_, ?_, ?_, ?_, ?_, ?_, ?_, hi⟩ <;> (rw [cell_block h]; rfl)
theorem LsAt.below {w w' : World} {g : Nat} {to un : Int} {r : Ro} {u : Value} (h : LsAt w g to un r u) (hb : Below w.heap.size w w') : LsAt w' g to un r u := by
  have hlt := World.block_lt_of_cell? w _ h.1
  obtain ⟨h0, h1, h2, h3, h4, h5, h6, h7, h8, h9, h10, h11⟩ := h
  have hk : ∀ k x, w.cell? ⟨g, k, none⟩ = some x → w'.cell? ⟨g, k, none⟩ = some x := fun k x hx => (hb.cell (p := ⟨g, k, none⟩) hlt).trans hx
  exact ⟨hk _ _ h0, hk _ _ h1, hk _ _ h2, hk _ _ h3, hk _ _ h4, hk _ _ h5, hk _ _ h6, hk _ _ h7, hk _ _ h8, hk _ _ h9, hk _ _ h10, h11.below hb⟩
theorem eqls_none (w : World) : Calls Tryz.prog 10 #[.slice none 0 0, .slice none 0 0] w fun e w' => e = .returned (.bool true) ∧ w = w' := by
  go_enter Tryz.func10, Tryz.ntmps10
  go_wp2_with fail
  go_loop [5] (fun v5 => v5 = .int .i64 0) (fun _ => 0)
  case atStart => rfl
  case round =>
    obtain rfl := hrel
    go_wp2_with fail
    go_ret
    exact ⟨rfl, rfl⟩
set_option maxRecDepth 100000 in
set_option maxHeartbeats 16000000 in
theorem eqls_one {w : World} {g g' : Nat} {to un : Int} {r : Ro} {ad ad' : Option Addr} {cap cap' : Nat} (h : LsAt w g to un r (.slice ad r.l.length cap)) (h' : LsAt w g' to un r (.slice ad' r.l.length cap')) (hl : r.l.length ≤ 1000) :
    Calls Tryz.prog 10 #[.slice (some ⟨g, 0, none⟩) 1 1, .slice (some ⟨g', 0, none⟩) 1 1] w fun e w' => e = .returned (.bool true) ∧ Below w.heap.size w w' := by
  have H0 := Lib.hid h
  have H0' := Lib.hid h'
  have HEQ : Hid (∀ W, IsAt W (.slice ad r.l.length cap) r.l → IsAt W (.slice ad' r.l.length cap') r.l → Calls Tryz.prog 16 #[.agg #[.int .i64 r.ep, .slice ad r.l.length cap, .int .i64 r.nw], .agg #[.int .i64 r.ep, .slice ad' r.l.length cap', .int .i64 r.nw]] W fun e w' => e = .returned (.bool true) ∧ Below W.heap.size W w') := Lib.hid (fun W h1 h2 => by
    have h3 := reqr_p r.ep r.nw r.ep r.nw _ _ r.l r.l W h1 h2 hl hl
    rw [show eqR ⟨r.ep, r.l, r.nw⟩ ⟨r.ep, r.l, r.nw⟩ = true from eqR_refl _] at h3
    exact h3)
  clear h h'
  go_enter Tryz.func10, Tryz.ntmps10
  go_wp2_with fail
  go_loopw [5] (fun v5 wr => (v5 = .int .i64 0 ∧ w = wr) ∨ (v5 = .int .i64 1 ∧ Hid (Below w.heap.size w wr))) (fun v5 _ => 1 - (intOf v5).toNat)
  case atStart => exact .inl ⟨rfl, rfl⟩
  case round =>
    rcases hrel with ⟨rfl, rfl⟩ | ⟨rfl, HB⟩
    · go_wp2_with fail
      have HS00 : Hid (LsAt w.drew g to un r (.slice ad r.l.length cap) ∧ LsAt w.drew g' to un r (.slice ad' r.l.length cap') ∧ Below w.heap.size w w.drew) := Lib.hid ⟨H0.out.below (Below.refl _ w).drew, H0'.out.below (Below.refl _ w).drew, (Below.refl _ w).drew⟩
      dsimp only [List.append]
      refine wp_region_seq (S := fun Y => LsAt Y g to un r (.slice ad r.l.length cap) ∧ LsAt Y g' to un r (.slice ad' r.l.length cap') ∧ Below w.heap.size w Y) (r := eqlO) (by kernel_rfl) (eql_all (by kernel_rfl)) (fun L hc => ?_)
      have hS0 := HS00.out
      refine hk 0 (.slice (some ⟨g, 0, none⟩) 1 1) hc rfl ?_ hS0 fun L hc => ?_
      · intro w' hS; go_simp
      refine hk 1 (.int .i64 0) hc rfl ?_ hS0 fun L hc => ?_
      · intro w' hS; go_simp
      refine hk 2 (.pointer (some ⟨g, 0, none⟩)) hc rfl ?_ hS0 fun L hc => ?_
      · intro w' hS; go_simp
      refine hk 3 (.pointer (some ⟨g, 0, none⟩)) hc rfl ?_ hS0 fun L hc => ?_
      · intro w' hS; go_simp
      refine hk 4 (.int .i64 2) hc rfl ?_ hS0 fun L hc => ?_
      · intro w' hS; obtain ⟨a0, a1, a2, a3, a4, a5, a6, a9, a10, a11, a12, _⟩ := hS.1; go_simp
      refine hk 5 (.slice (some ⟨g', 0, none⟩) 1 1) hc rfl ?_ hS0 fun L hc => ?_
      · intro w' hS; go_simp
      refine hk 6 (.int .i64 0) hc rfl ?_ hS0 fun L hc => ?_
      · intro w' hS; go_simp
      refine hk 7 (.pointer (some ⟨g', 0, none⟩)) hc rfl ?_ hS0 fun L hc => ?_
      · intro w' hS; go_simp
      refine hk 8 (.pointer (some ⟨g', 0, none⟩)) hc rfl ?_ hS0 fun L hc => ?_
      · intro w' hS; go_simp
      refine hk 9 (.int .i64 2) hc rfl ?_ hS0 fun L hc => ?_
      · intro w' hS; obtain ⟨b0, b1, b2, b3, b4, b5, b6, b9, b10, b11, b12, _⟩ := hS.2.1; go_simp
      refine hk 10 (.bool false) hc rfl ?_ hS0 fun L hc => ?_
      · intro w' hS; go_simp
      refine hk 11 (.bool false) hc rfl ?_ hS0 fun L hc => ?_
      · intro w' hS; go_simp
      refine hk 12 (.slice (some ⟨g, 0, none⟩) 1 1) hc rfl ?_ hS0 fun L hc => ?_
      · intro w' hS; go_simp
      refine hk 13 (.int .i64 0) hc rfl ?_ hS0 fun L hc => ?_
      · intro w' hS; go_simp
      refine hk 14 (.pointer (some ⟨g, 0, none⟩)) hc rfl ?_ hS0 fun L hc => ?_
      · intro w' hS; go_simp
      refine hk 15 (.pointer (some ⟨g, 1, none⟩)) hc rfl ?_ hS0 fun L hc => ?_
      · intro w' hS; go_simp
      refine hk 16 (.int .i64 0) hc rfl ?_ hS0 fun L hc => ?_
      · intro w' hS; obtain ⟨a0, a1, a2, a3, a4, a5, a6, a9, a10, a11, a12, _⟩ := hS.1; go_simp
      refine hk 17 (.slice (some ⟨g', 0, none⟩) 1 1) hc rfl ?_ hS0 fun L hc => ?_
      · intro w' hS; go_simp
      refine hk 18 (.int .i64 0) hc rfl ?_ hS0 fun L hc => ?_
      · intro w' hS; go_simp
      refine hk 19 (.pointer (some ⟨g', 0, none⟩)) hc rfl ?_ hS0 fun L hc => ?_
      · intro w' hS; go_simp
      refine hk 20 (.pointer (some ⟨g', 1, none⟩)) hc rfl ?_ hS0 fun L hc => ?_
      · intro w' hS; go_simp
      refine hk 21 (.int .i64 0) hc rfl ?_ hS0 fun L hc => ?_
      · intro w' hS; obtain ⟨b0, b1, b2, b3, b4, b5, b6, b9, b10, b11, b12, _⟩ := hS.2.1; go_simp
      refine hk 22 (.bool false) hc rfl ?_ hS0 fun L hc => ?_
      · intro w' hS; go_simp
      refine hk 23 (.bool false) hc rfl ?_ hS0 fun L hc => ?_
      · intro w' hS; go_simp
      simp only [List.getElem_toArray, List.getElem_cons_succ, List.getElem_cons_zero, Act.put, List.setIfInBounds_toArray, List.set_cons_zero, List.set_cons_succ]
      refine hk 24 (.bool false) hc rfl ?_ hS0 fun L hc => ?_
      · intro w' hS; go_simp
      refine hk 25 (.slice (some ⟨g, 0, none⟩) 1 1) hc rfl ?_ hS0 fun L hc => ?_
      · intro w' hS; go_simp
      refine hk 26 (.int .i64 0) hc rfl ?_ hS0 fun L hc => ?_
      · intro w' hS; go_simp
      refine hk 27 (.pointer (some ⟨g, 0, none⟩)) hc rfl ?_ hS0 fun L hc => ?_
      · intro w' hS; go_simp
      refine hk 28 (.pointer (some ⟨g, 2, none⟩)) hc rfl ?_ hS0 fun L hc => ?_
      · intro w' hS; go_simp
      refine hk 29 (.int .i64 to) hc rfl ?_ hS0 fun L hc => ?_
      · intro w' hS; obtain ⟨a0, a1, a2, a3, a4, a5, a6, a9, a10, a11, a12, _⟩ := hS.1; go_simp
      refine hk 30 (.slice (some ⟨g', 0, none⟩) 1 1) hc rfl ?_ hS0 fun L hc => ?_
      · intro w' hS; go_simp
      refine hk 31 (.int .i64 0) hc rfl ?_ hS0 fun L hc => ?_
      · intro w' hS; go_simp
      refine hk 32 (.pointer (some ⟨g', 0, none⟩)) hc rfl ?_ hS0 fun L hc => ?_
      · intro w' hS; go_simp
      refine hk 33 (.pointer (some ⟨g', 2, none⟩)) hc rfl ?_ hS0 fun L hc => ?_
      · intro w' hS; go_simp
      refine hk 34 (.int .i64 to) hc rfl ?_ hS0 fun L hc => ?_
      · intro w' hS; obtain ⟨b0, b1, b2, b3, b4, b5, b6, b9, b10, b11, b12, _⟩ := hS.2.1; go_simp
      refine hk 35 (.bool false) hc rfl ?_ hS0 fun L hc => ?_
      · intro w' hS; go_simp
      refine hk 36 (.bool false) hc rfl ?_ hS0 fun L hc => ?_
      · intro w' hS; go_simp
      refine hk 37 (.bool false) hc rfl ?_ hS0 fun L hc => ?_
      · intro w' hS; go_simp
      refine hk 38 (.slice (some ⟨g, 0, none⟩) 1 1) hc rfl ?_ hS0 fun L hc => ?_
      · intro w' hS; go_simp
      refine hk 39 (.int .i64 0) hc rfl ?_ hS0 fun L hc => ?_
      · intro w' hS; go_simp
      refine hk 40 (.pointer (some ⟨g, 0, none⟩)) hc rfl ?_ hS0 fun L hc => ?_
      · intro w' hS; go_simp
      refine hk 41 (.pointer (some ⟨g, 6, none⟩)) hc rfl ?_ hS0 fun L hc => ?_
      · intro w' hS; go_simp
      refine hk 42 (.int .i64 un) hc rfl ?_ hS0 fun L hc => ?_
      · intro w' hS; obtain ⟨a0, a1, a2, a3, a4, a5, a6, a9, a10, a11, a12, _⟩ := hS.1; go_simp
      refine hk 43 (.slice (some ⟨g', 0, none⟩) 1 1) hc rfl ?_ hS0 fun L hc => ?_
      · intro w' hS; go_simp
      refine hk 44 (.int .i64 0) hc rfl ?_ hS0 fun L hc => ?_
      · intro w' hS; go_simp
      refine hk 45 (.pointer (some ⟨g', 0, none⟩)) hc rfl ?_ hS0 fun L hc => ?_
      · intro w' hS; go_simp
      refine hk 46 (.pointer (some ⟨g', 6, none⟩)) hc rfl ?_ hS0 fun L hc => ?_
      · intro w' hS; go_simp
      refine hk 47 (.int .i64 un) hc rfl ?_ hS0 fun L hc => ?_
      · intro w' hS; obtain ⟨b0, b1, b2, b3, b4, b5, b6, b9, b10, b11, b12, _⟩ := hS.2.1; go_simp
      simp only [List.getElem_toArray, List.getElem_cons_succ, List.getElem_cons_zero, Act.put, List.setIfInBounds_toArray, List.set_cons_zero, List.set_cons_succ]
      refine hk 48 (.bool false) hc rfl ?_ hS0 fun L hc => ?_
      · intro w' hS; go_simp
      refine hk 49 (.bool false) hc rfl ?_ hS0 fun L hc => ?_
      · intro w' hS; go_simp
      refine hk 50 (.bool false) hc rfl ?_ hS0 fun L hc => ?_
      · intro w' hS; go_simp
      refine hk 51 (.slice (some ⟨g, 0, none⟩) 1 1) hc rfl ?_ hS0 fun L hc => ?_
      · intro w' hS; go_simp
      refine hk 52 (.int .i64 0) hc rfl ?_ hS0 fun L hc => ?_
      · intro w' hS; go_simp
      refine hk 53 (.pointer (some ⟨g, 0, none⟩)) hc rfl ?_ hS0 fun L hc => ?_
      · intro w' hS; go_simp
      refine hk 54 (.pointer (some ⟨g, 9, none⟩)) hc rfl ?_ hS0 fun L hc => ?_
      · intro w' hS; go_simp
      refine hk 55 (.agg #[.int .i64 r.ep, .slice ad r.l.length cap, .int .i64 r.nw]) hc rfl ?_ hS0 fun L hc => ?_
      · intro w' hS; obtain ⟨a0, a1, a2, a3, a4, a5, a6, a9, a10, a11, a12, _⟩ := hS.1; go_simp
      refine hk 56 (.slice (some ⟨g', 0, none⟩) 1 1) hc rfl ?_ hS0 fun L hc => ?_
      · intro w' hS; go_simp
      refine hk 57 (.int .i64 0) hc rfl ?_ hS0 fun L hc => ?_
      · intro w' hS; go_simp
      refine hk 58 (.pointer (some ⟨g', 0, none⟩)) hc rfl ?_ hS0 fun L hc => ?_
      · intro w' hS; go_simp
      refine hk 59 (.pointer (some ⟨g', 9, none⟩)) hc rfl ?_ hS0 fun L hc => ?_
      · intro w' hS; go_simp
      refine hk 60 (.agg #[.int .i64 r.ep, .slice ad' r.l.length cap', .int .i64 r.nw]) hc rfl ?_ hS0 fun L hc => ?_
      · intro w' hS; obtain ⟨b0, b1, b2, b3, b4, b5, b6, b9, b10, b11, b12, _⟩ := hS.2.1; go_simp
      refine held_one (i := 61) hc rfl (fun K hK => ?_)
      rw [if_pos (by kernel_rfl)]
      go_simp
      refine (HEQ.out _ hS0.1.2.2.2.2.2.2.2.2.2.2.2 hS0.2.1.2.2.2.2.2.2.2.2.2.2.2).mono ?_
      rintro _ z1 ⟨rfl, hb9⟩
      refine hK.out _ _ ⟨hS0.1.below hb9, hS0.2.1.below hb9, hS0.2.2.trans (hb9.mono hS0.2.2.size)⟩ (fun L hS0' hc => ?_)
      clear hK hb9 hS0
      have hS0 := hS0'
      clear hS0'
      refine hk 62 (.bool false) hc rfl ?_ hS0 fun L hc => ?_
      · intro w' hS; go_simp
      refine hk 63 (.bool false) hc rfl ?_ hS0 fun L hc => ?_
      · intro w' hS; go_simp
      refine hk 64 (.bool false) hc rfl ?_ hS0 fun L hc => ?_
      · intro w' hS; go_simp
      refine hk 65 (.slice (some ⟨g, 0, none⟩) 1 1) hc rfl ?_ hS0 fun L hc => ?_
      · intro w' hS; go_simp
      refine hk 66 (.int .i64 0) hc rfl ?_ hS0 fun L hc => ?_
      · intro w' hS; go_simp
      refine hk 67 (.pointer (some ⟨g, 0, none⟩)) hc rfl ?_ hS0 fun L hc => ?_
      · intro w' hS; go_simp
      refine hk 68 (.pointer (some ⟨g, 3, none⟩)) hc rfl ?_ hS0 fun L hc => ?_
      · intro w' hS; go_simp
      refine hk 69 (.int .i64 0) hc rfl ?_ hS0 fun L hc => ?_
      · intro w' hS; obtain ⟨a0, a1, a2, a3, a4, a5, a6, a9, a10, a11, a12, _⟩ := hS.1; go_simp
      refine hk 70 (.bool false) hc rfl ?_ hS0 fun L hc => ?_
      · intro w' hS; go_simp
      refine hk 71 (.bool false) hc rfl ?_ hS0 fun L hc => ?_
      · intro w' hS; go_simp
      refine hk 72 (.bool false) hc rfl ?_ hS0 fun L hc => ?_
      · intro w' hS; go_simp
      simp only [List.getElem_toArray, List.getElem_cons_succ, List.getElem_cons_zero, Act.put, List.setIfInBounds_toArray, List.set_cons_zero, List.set_cons_succ]
      refine hk 73 (.slice (some ⟨g, 0, none⟩) 1 1) hc rfl ?_ hS0 fun L hc => ?_
      · intro w' hS; go_simp
      refine hk 74 (.int .i64 0) hc rfl ?_ hS0 fun L hc => ?_
      · intro w' hS; go_simp
      refine hk 75 (.pointer (some ⟨g, 0, none⟩)) hc rfl ?_ hS0 fun L hc => ?_
      · intro w' hS; go_simp
      refine hk 76 (.pointer (some ⟨g, 4, none⟩)) hc rfl ?_ hS0 fun L hc => ?_
      · intro w' hS; go_simp
      refine hk 77 (.int .i64 0) hc rfl ?_ hS0 fun L hc => ?_
      · intro w' hS; obtain ⟨a0, a1, a2, a3, a4, a5, a6, a9, a10, a11, a12, _⟩ := hS.1; go_simp
      refine hk 78 (.bool false) hc rfl ?_ hS0 fun L hc => ?_
      · intro w' hS; go_simp
      refine hk 79 (.bool false) hc rfl ?_ hS0 fun L hc => ?_
      · intro w' hS; go_simp
      refine hk 80 (.bool false) hc rfl ?_ hS0 fun L hc => ?_
      · intro w' hS; go_simp
      refine hk 81 (.slice (some ⟨g, 0, none⟩) 1 1) hc rfl ?_ hS0 fun L hc => ?_
      · intro w' hS; go_simp
      refine hk 82 (.int .i64 0) hc rfl ?_ hS0 fun L hc => ?_
      · intro w' hS; go_simp
      refine hk 83 (.pointer (some ⟨g, 0, none⟩)) hc rfl ?_ hS0 fun L hc => ?_
      · intro w' hS; go_simp
      refine hk 84 (.pointer (some ⟨g, 5, none⟩)) hc rfl ?_ hS0 fun L hc => ?_
      · intro w' hS; go_simp
      refine hk 85 (.int .i64 0) hc rfl ?_ hS0 fun L hc => ?_
      · intro w' hS; obtain ⟨a0, a1, a2, a3, a4, a5, a6, a9, a10, a11, a12, _⟩ := hS.1; go_simp
      refine hk 86 (.bool false) hc rfl ?_ hS0 fun L hc => ?_
      · intro w' hS; go_simp
      refine hk 87 (.bool false) hc rfl ?_ hS0 fun L hc => ?_
      · intro w' hS; go_simp
      refine hk 88 (.bool false) hc rfl ?_ hS0 fun L hc => ?_
      · intro w' hS; go_simp
      refine hk 89 (.slice (some ⟨g, 0, none⟩) 1 1) hc rfl ?_ hS0 fun L hc => ?_
      · intro w' hS; go_simp
      refine hk 90 (.int .i64 0) hc rfl ?_ hS0 fun L hc => ?_
      · intro w' hS; go_simp
      refine hk 91 (.pointer (some ⟨g, 0, none⟩)) hc rfl ?_ hS0 fun L hc => ?_
      · intro w' hS; go_simp
      refine hk 92 (.pointer (some ⟨g, 12, none⟩)) hc rfl ?_ hS0 fun L hc => ?_
      · intro w' hS; go_simp
      refine hk 93 (.slice none 0 0) hc rfl ?_ hS0 fun L hc => ?_
      · intro w' hS; obtain ⟨a0, a1, a2, a3, a4, a5, a6, a9, a10, a11, a12, _⟩ := hS.1; go_simp
      refine hk 94 (.int .i64 0) hc rfl ?_ hS0 fun L hc => ?_
      · intro w' hS; go_simp
      refine hk 95 (.bool false) hc rfl ?_ hS0 fun L hc => ?_
      · intro w' hS; go_simp
      refine hk 96 (.bool false) hc rfl ?_ hS0 fun L hc => ?_
      · intro w' hS; go_simp
      simp only [List.getElem_toArray, List.getElem_cons_succ, List.getElem_cons_zero, Act.put, List.setIfInBounds_toArray, List.set_cons_zero, List.set_cons_succ]
      refine held_done hc ?_ _
      have HB2 := Lib.hid hS0.2.2
      clear hS0 HEQ hc H0 H0' HS00
      go_wp2_with fail
      go_roundw
      case rel => exact .inr ⟨rfl, HB2⟩
      case measure => simp [intOf]
    · go_wp2_with fail
      go_ret
      exact ⟨rfl, HB.out⟩
end Go.Proofs.YtaacdggjkfmehaaGreatDoor
