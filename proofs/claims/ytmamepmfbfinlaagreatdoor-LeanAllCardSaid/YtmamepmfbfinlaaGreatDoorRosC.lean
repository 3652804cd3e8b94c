/-
  The contracts of slices.Grow and slices.Concat (of two lists that are there).
-/
import Derived.Test.YtmamepmfbfinlaaGreatDoorRosB
import Derived.Lib.AppendZeros
namespace Go.Proofs.YtmamepmfbfinlaaGreatDoor
open Go.RowKit

set_option maxRecDepth 100000 in
set_option maxHeartbeats 2000000 in
theorem grow_p (n : Nat) (hn : n ≤ 1000000) (w : World) :
    Calls Tryz.prog 81 #[.slice none 0 0, .int .i64 n] w fun e w' => ∃ ad cap, e = .returned (.slice ad 0 cap) ∧ IOwn w' w.heap.size (.slice ad 0 cap) [] ∧ Below w.heap.size w w' := by
  obtain ⟨i0, hi, hz0, hz1, hz2⟩ := int_info
  by_cases h0 : n = 0
  · subst h0
    go_enter Tryz.func81, Tryz.ntmps81
    go_wp2_with fail
    go_ret
    exact ⟨none, 0, rfl, IOwn.nil _ _, Below.refl _ _⟩
  · have t0 : decide ((n : Int) < 0) = false := decide_eq_false (by omega)
    have t1 : (0 : Int) < (n : Int) := by omega
    have hw0 : IntKind.i64.wrap (n : Int) = (n : Int) := IntWalk.i64_in _ (by omega)
    have hrz : ∀ ty, (Builtin.append_ #[22, 3] ty #[.slice none 0 0, .int .i64 (n : Int)]).run Tryz.prog w = _ := fun ty =>
      Lib.run_append_nil_zeros w 22 3 ty 3 i0 _ .i64 .i64 Tryz.underlying22 Tryz.underlying3 hi hz0 n (by omega) (by omega) (by omega) (by rw [hz2]; omega)
    obtain ⟨G, hG⟩ : ∃ G, G = grownCap w n 0 3 := ⟨_, rfl⟩
    rw [← hG] at hrz
    have hGn : n ≤ G := by rw [hG]; exact grownCap_ge w _ _ _
    have hGm : G ≤ maxLen := by
      have := grownCap_le_maxLen w n 0 3 (by unfold maxLen; omega)
      rw [← hG] at this
      exact this
    obtain ⟨ROW, hROW⟩ : ∃ ROW : Array Value, ROW = Builtin.zeroCells (Value.int .i64 0).cells n ++ Builtin.zeroCells (Value.int .i64 0).cells (G - n) := ⟨_, rfl⟩
    rw [← hROW] at hrz
    have hRs : ROW.size = G * 1 := by
      rw [hROW]
      simp only [Array.size_append, Builtin.zeroCells]
      simp [Value.cells]
      omega
    have HO : Hid (IOwn (w.drew.alloc (.cells ROW 3)) w.heap.size (.slice (some ⟨w.heap.size, 0, none⟩) 0 G) []) := Lib.hid ⟨rfl, .inr ⟨w.heap.size, G, ROW, rfl, Nat.le_refl _, heap_alloc_new w.drew _, Nat.zero_le _, hGm, hRs, rfl⟩⟩
    have HB : Hid (Below w.heap.size w (w.drew.alloc (.cells ROW 3))) := Lib.hid ((Below.refl _ w).drew.alloc (Nat.le_refl _) _)
    clear hROW hG hRs hi hz0 hz1 hz2
    go_enter Tryz.func81, Tryz.ntmps81
    go_wp2_with (at_builtin; refine Lib.wpList_append_run _ rfl _ _ _ _ rfl _ _ rfl rfl _ _ (hrz _) ?_)
    go_ret
    exact ⟨_, _, rfl, HO.out, HB.out⟩

def preC (l1 l2 : List Int) (k : Nat) : List Int := if k = 0 then [] else if k = 1 then l1 else l1 ++ l2

def szC (l1 l2 : List Int) (k : Nat) : Nat := if k = 0 then 0 else if k = 1 then l1.length else l1.length + l2.length

set_option maxRecDepth 100000 in
set_option maxHeartbeats 4000000 in
theorem concat_p (B g1 o1 c1 g2 o2 c2 : Nat) (l1 l2 : List Int) (w : World) (hB : B < w.heap.size) (hv1 : w.cell? ⟨B, 0, none⟩ = some (.slice (some ⟨g1, o1, none⟩) l1.length c1)) (hv2 : w.cell? ⟨B, 1, none⟩ = some (.slice (some ⟨g2, o2, none⟩) l2.length c2))
    (h1 : g1 < w.heap.size ∧ IAt w g1 o1 l1) (h2 : g2 < w.heap.size ∧ IAt w g2 o2 l2) (hn1 : l1.length ≤ 400000) (hn2 : l2.length ≤ 400000) :
    Calls Tryz.prog 63 #[.slice (some ⟨B, 0, none⟩) 2 2] w fun e w' => ∃ ad cap, e = .returned (.slice ad (l1 ++ l2).length cap) ∧ IOwn w' w.heap.size (.slice ad (l1 ++ l2).length cap) (l1 ++ l2) ∧ Below w.heap.size w w' := by
  obtain ⟨i0, hi, hz0, hz1, hz2⟩ := int_info
  have H1 := Lib.hid h1
  have H2 := Lib.hid h2
  have hc1 := icells_length l1
  have hc2 := icells_length l2
  have ho1 := icells_one l1
  have ho2 := icells_one l2
  clear h1 h2
  go_enter Tryz.func63, Tryz.ntmps63
  go_wp2_with fail
  go_loopw [3, 5, 11] (fun s3 _ s11 wr => ∃ (k : Nat) (s : Int), k ≤ 2 ∧ s11 = .int .i64 k ∧ s3 = .int .i64 s ∧ wr = w ∧ Hid (s = ((szC l1 l2 k : Nat) : Int))) (fun _ _ s11 _ => 2 - (intOf s11).toNat)
  case atStart => exact ⟨0, 0, by omega, rfl, rfl, rfl, Lib.hid rfl⟩
  case round =>
    obtain ⟨k, s, hk, rfl, rfl, rfl, hs⟩ := hrel
    obtain rfl | rfl | rfl : k = 0 ∨ k = 1 ∨ k = 2 := by omega
    · obtain rfl : s = 0 := hs.out
      have hw0 : IntKind.i64.wrap (0 + (l1.length : Int)) = (l1.length : Int) := by rw [Int.zero_add]; exact IntWalk.i64_in _ (by omega)
      have hw0' : IntKind.i64.wrap (l1.length : Int) = (l1.length : Int) := IntWalk.i64_in _ (by omega)
      have hn0 : decide ((l1.length : Int) < 0) = false := decide_eq_false (by omega)
      go_wp2_with fail
      go_roundw
      case rel => exact ⟨1, l1.length, by omega, by go_num, by first | rfl | trivial, by first | rfl | trivial, Lib.hid (by simp [szC])⟩
      case measure => simp [intOf]
    · have hs1 : s = (l1.length : Int) := by rw [hs.out]; simp [szC]
      subst hs1
      have hw0 : IntKind.i64.wrap ((l1.length : Int) + (l2.length : Int)) = (l1.length : Int) + (l2.length : Int) := IntWalk.i64_in _ (by omega)
      have hn0 : decide ((l1.length : Int) + (l2.length : Int) < 0) = false := decide_eq_false (by omega)
      go_wp2_with fail
      go_roundw
      case rel => exact ⟨2, (l1.length : Int) + (l2.length : Int), by omega, by go_num, by first | rfl | trivial, by first | rfl | trivial, Lib.hid (by simp [szC])⟩
      case measure => simp [intOf]
    · have hs1 : s = ((l1.length + l2.length : Nat) : Int) := by rw [hs.out]; simp [szC]
      subst hs1
      have HG := Lib.hid (grow_p (l1.length + l2.length) (by omega) wr)
      generalize hN : l1.length + l2.length = N at *
      have HN := Lib.hid hN
      clear hN
      go_wp2_with fail
      refine HG.out.mono ?_
      rintro _ w1 ⟨a0, c0, rfl, hown, hb1⟩
      have HO := Lib.hid hown
      have HB1 := Lib.hid hb1
      have q1 : w1.cell? ⟨B, 0, none⟩ = some (.slice (some ⟨g1, o1, none⟩) l1.length c1) := by rw [hb1.cell hB]; exact hv1
      have q2 : w1.cell? ⟨B, 1, none⟩ = some (.slice (some ⟨g2, o2, none⟩) l2.length c2) := by rw [hb1.cell hB]; exact hv2
      clear hown hb1 HG hv1 hv2
      go_wp2_with fail
      obtain ⟨V, hV⟩ : ∃ V, V = wr := ⟨_, rfl⟩
      subst hV
      go_loopw [6, 8, 27] (fun s6 _ s27 ws => ∃ (k : Nat) (ad : Option Addr) (m cap : Nat), k ≤ 2 ∧ s27 = .int .i64 k ∧ s6 = .slice ad m cap ∧ Hid (IOwn ws V.heap.size (.slice ad m cap) (preC l1 l2 k)) ∧ Hid (Below V.heap.size V ws)) (fun _ _ s27 _ => 2 - (intOf s27).toNat)
      case atStart => exact ⟨0, a0, 0, c0, by omega, rfl, rfl, HO, HB1⟩
      case round =>
        obtain ⟨k, ad, m, cap, hk, rfl, rfl, HOW, HBW⟩ := hrel
        have q1 : wr.cell? ⟨B, 0, none⟩ = some (.slice (some ⟨g1, o1, none⟩) l1.length c1) := by rw [HBW.out.cell hB, ← HB1.out.cell hB]; exact q1
        have q2 : wr.cell? ⟨B, 1, none⟩ = some (.slice (some ⟨g2, o2, none⟩) l2.length c2) := by rw [HBW.out.cell hB, ← HB1.out.cell hB]; exact q2
        obtain rfl | rfl | rfl : k = 0 ∨ k = 1 ∨ k = 2 := by omega
        · have hown : IOwn wr V.heap.size (.slice ad m cap) ([] : List Int) := HOW.out
          obtain rfl : m = ([] : List Int).length := by obtain ⟨x, y, e⟩ := hown.shape; simp only [Value.slice.injEq] at e; exact e.2.1
          have hC : g1 < wr.heap.size ∧ IAt wr g1 o1 l1 := ⟨Nat.lt_of_lt_of_le H1.out.1 HBW.out.size, H1.out.2.kept (HBW.out.block _ H1.out.1)⟩
          have hsz : V.heap.size ≤ wr.heap.size := HBW.out.size
          go_wp2_with (at_builtin; refine wpList_append_own _ rfl _ _ 22 rfl V.heap.size 3 i0 _ 1 8 Tryz.underlying22 hi hz0 hz1 hz2 rfl (by decide) _ _ _ rfl hown ⟨g1, o1, none⟩ l1.length c1 (icells l1) rfl ?qc1 ?qc2 ?qc3 ?qc4 ?qc5 ?qc6 ?_)
          case qc1 => exact hc1
          case qc2 => exact hC.2.cells
          case qc3 => exact ho1
          case qc4 => first | (unfold maxLen; omega) | (simp only [List.length_nil]; unfold maxLen; omega)
          case qc5 => first | omega | (simp only [List.length_nil]; omega)
          case qc6 => exact hsz
          intro v' w2 hown2 hgrow hnil
          have hO2 : IOwn w2 V.heap.size v' ([] ++ l1) := by
            unfold IOwn
            first
              | (rw [icells_append, List.length_append]; exact hown2)
              | (rw [List.nil_append]; simpa [icells] using hown2)
          obtain ⟨a2, c2', rfl⟩ := hO2.shape
          have hB2 : Below V.heap.size V w2 := HBW.out.grown hgrow HBW.out.size (fun j hj => (hown.lt hj).1)
          clear hown hown2 hgrow hnil hC
          go_wp2_with fail
          go_roundw
          case rel => exact ⟨1, _, _, _, by omega, by go_num, rfl, Lib.hid (by simpa [preC] using hO2), Lib.hid hB2⟩
          case measure => simp [intOf]
        · have hown : IOwn wr V.heap.size (.slice ad m cap) l1 := HOW.out
          obtain rfl : m = l1.length := by obtain ⟨x, y, e⟩ := hown.shape; simp only [Value.slice.injEq] at e; exact e.2.1
          have hC : g2 < wr.heap.size ∧ IAt wr g2 o2 l2 := ⟨Nat.lt_of_lt_of_le H2.out.1 HBW.out.size, H2.out.2.kept (HBW.out.block _ H2.out.1)⟩
          have hsz : V.heap.size ≤ wr.heap.size := HBW.out.size
          go_wp2_with (at_builtin; refine wpList_append_own _ rfl _ _ 22 rfl V.heap.size 3 i0 _ 1 8 Tryz.underlying22 hi hz0 hz1 hz2 rfl (by decide) _ _ _ rfl hown ⟨g2, o2, none⟩ l2.length c2 (icells l2) rfl ?qc1 ?qc2 ?qc3 ?qc4 ?qc5 ?qc6 ?_)
          case qc1 => exact hc2
          case qc2 => exact hC.2.cells
          case qc3 => exact ho2
          case qc4 => first | (unfold maxLen; omega) | (simp only [List.length_nil]; unfold maxLen; omega)
          case qc5 => first | omega | (simp only [List.length_nil]; omega)
          case qc6 => exact hsz
          intro v' w2 hown2 hgrow hnil
          have hO2 : IOwn w2 V.heap.size v' (l1 ++ l2) := by
            unfold IOwn
            first
              | (rw [icells_append, List.length_append]; exact hown2)
              | (rw [List.nil_append]; simpa [icells] using hown2)
          obtain ⟨a2, c2', rfl⟩ := hO2.shape
          have hB2 : Below V.heap.size V w2 := HBW.out.grown hgrow HBW.out.size (fun j hj => (hown.lt hj).1)
          clear hown hown2 hgrow hnil hC
          go_wp2_with fail
          go_roundw
          case rel => exact ⟨2, _, _, _, by omega, by go_num, rfl, Lib.hid (by simpa [preC] using hO2), Lib.hid hB2⟩
          case measure => simp [intOf]
        · have hown : IOwn wr V.heap.size (.slice ad m cap) (l1 ++ l2) := HOW.out
          obtain rfl : m = (l1 ++ l2).length := by obtain ⟨x, y, e⟩ := hown.shape; simp only [Value.slice.injEq] at e; exact e.2.1
          go_wp2_with fail
          go_ret
          exact ⟨ad, cap, rfl, hown, HBW.out⟩

end Go.Proofs.YtmamepmfbfinlaaGreatDoor
