/-
  Contracts of the program, and what they rest on.
-/
import Derived.Test.YtaacdggjkfmehaaGreatDoorM03
import Derived.Test.YtaacdggjkfmehaaGreatDoorRRosH
namespace Go.Proofs.YtaacdggjkfmehaaGreatDoor
open Go.RowKit
set_option maxRecDepth 100000 in
set_option maxHeartbeats 4000000 in
theorem lroster_p (e nw : Int) (v : Value) (l : List Int) (w : World) (h : IsAt w v l) (hn : l.length ≤ 9223372036854775807) :
    Calls Tryz.prog 6 #[.agg #[.int .i64 e, v, .int .i64 nw]] w fun r w' => ∃ ad cap, r = .returned (.agg #[.int .i64 e, .slice ad (l.take 7).length cap, .int .i64 nw]) ∧ IOwn w' w.heap.size (.slice ad (l.take 7).length cap) (l.take 7) ∧ Below w.heap.size w w' := by
  obtain ⟨i0, hi, hz0, hz1, hz2⟩ := int_info
  rcases h with ⟨rfl, rfl⟩ | ⟨g, o, cap, rfl, h1, h2, h3, h4⟩
  · have hrun : ∀ (ty : TypeId) (W : World), (Builtin.append_ #[22, 22] ty #[.slice none 0 0, .slice none 0 0]).run Tryz.prog W = .ok (.slice none 0 0) W := fun ty W => app_nil_run (P := Tryz.prog) (w := W) 22 ty 3 i0 Tryz.underlying22 hi
    have hmin : min (0 : Int) 7 = 0 := by decide
    obtain ⟨_, ⟨⟨t0, t1, t2⟩, _⟩, hb⟩ := two_boxes w e nw e nw none none 0 0 0 0 24
    go_enter Tryz.func6, Tryz.ntmps6
    go_wp2_with fail
    exact bodyPost_ret (v := .agg #[.int .i64 e, .slice none 0 0, .int .i64 nw]) (by simp [results, Tryz.results6, go_sem, t0, t1, t2]) rfl ⟨none, 0, rfl, IOwn.nil _ _, hb⟩
  · have h : IsAt w (.slice (some ⟨g, o, none⟩) l.length cap) l := .inr ⟨g, o, cap, rfl, h1, h2, h3, h4⟩
    have HT := Lib.hid (twoB_new w e nw (some ⟨g, o, none⟩) cap l h)
    obtain ⟨L, hLd⟩ : ∃ L, l.take 7 = L := ⟨_, rfl⟩
    rw [hLd]
    by_cases h7 : l.length ≤ 7
    case pos =>
      have h7z : (l.length : Int) ≤ 7 := by omega
      have hmn : min (l.length : Int) 7 = (l.length : Int) := by omega
      have hcz : (l.length : Int) ≤ (cap : Int) := by omega
      have hL : L.length = l.length := by rw [← hLd, List.length_take]; omega
      have hcl : (icells L).length = l.length * 1 := by rw [icells_length, hL]
      have hone := icells_one L
      have HLL := Lib.hid hL
      have HIA : Hid (∀ Y, Below w.heap.size w Y → IAt Y g o L) := Lib.hid (fun Y hY j x hx => by
        rw [← hLd, List.getElem?_take] at hx
        split at hx
        · exact (IAt.kept h4 (hY.block g h3)) j x hx
        · cases hx)
      clear h h1 h2 h3 h4 hL hLd
      go_enter Tryz.func6, Tryz.ntmps6
      go_wp2_with (at_builtin; refine wpList_append_own _ rfl _ _ 22 rfl (w.heap.size + 2) 3 i0 _ 1 8 Tryz.underlying22 hi hz0 hz1 hz2 rfl (by decide) (.slice none 0 0) 0 [] rfl (World.ownsRow_nil _ _ _ _) ⟨g, o, none⟩ (l.length) cap (icells L) rfl hcl (HIA.out _ HT.out.b).cells hone (by unfold maxLen; omega) (by omega) (by simp) ?_)
      intro v' w1 hown hgrow hnil
      have ho : IOwn w1 (w.heap.size + 2) v' L := by unfold IOwn; rw [HLL.out]; simpa using hown
      have HZ := Lib.hid (HT.out.below ((Below.refl _ _).grown hgrow (Nat.le_refl _) (by intro k hk; simp [Value.ownBlock] at hk)))
      obtain ⟨a1, c1, rfl⟩ := ho.shape
      have HO := Lib.hid ho
      clear hown hgrow hnil ho HIA HT hcl hone hi hz0 hz1 hz2
      obtain ⟨⟨b0, b1, b2⟩, g0, g1, g2⟩ := HZ.out.a
      obtain ⟨⟨d0, d1, d2⟩, f0, f1, f2⟩ := HZ.out.z
      go_wp2_with fail
      have hA : RC (w1.setCell ⟨w.heap.size, 1, none⟩ (.slice a1 L.length c1)) w.heap.size e (.slice a1 L.length c1) nw := ⟨⟨by go_simp, by go_simp, by go_simp⟩, by go_simp, by go_simp, by go_simp⟩
      have hb1 : Below w.heap.size w (w1.setCell ⟨w.heap.size, 1, none⟩ (.slice a1 L.length c1)) := HZ.out.b.setCell (p := ⟨w.heap.size, 1, none⟩) (Nat.le_refl _) (.slice a1 L.length c1)
      have hz1 : RC (w1.setCell ⟨w.heap.size, 1, none⟩ (.slice a1 L.length c1)) (w.heap.size + 1) 0 (.slice none 0 0) 0 := HZ.out.z.kept (Below.heap_setCell _ _ _ _ (by simp))
      have ho1 : IOwn (w1.setCell ⟨w.heap.size, 1, none⟩ (.slice a1 L.length c1)) (w.heap.size + 2) (.slice a1 L.length c1) L := HO.out.kept (fun j hj => Below.heap_setCell _ _ _ _ (by have := (HO.out.lt hj).1; simp; omega))
      have hF := box_facts (W := w1.setCell ⟨w.heap.size, 1, none⟩ (.slice a1 L.length c1)) (e0 := e) (ad0 := a1) (m0 := L.length) (cap0 := c1) (nw0 := nw) (l0 := L) ⟨hA, hz1, ho1.at, hb1⟩ e nw a1 L.length c1
      dsimp only at hF
      obtain ⟨t0, t1, t2, hB3, hk⟩ := hF
      exact bodyPost_ret (v := .agg #[.int .i64 e, .slice a1 L.length c1, .int .i64 nw]) (by simp [results, Tryz.results6, go_sem, t0, t1, t2]) rfl ⟨_, _, rfl, (ho1.mono (show w.heap.size ≤ w.heap.size + 2 by omega)).kept (fun j hj => hk j (by have := (ho1.lt hj).1; omega)), hB3⟩
    case neg =>
      have h7z : ¬ (l.length : Int) ≤ 7 := by omega
      have hmn : min (l.length : Int) 7 = 7 := by omega
      have h7y : (7 : Int) < (l.length : Int) := by omega
      have hcz : (7 : Int) ≤ (cap : Int) := by omega
      have hcn : 7 ≤ cap := by omega
      have hL : L.length = 7 := by rw [← hLd, List.length_take]; omega
      have hcl : (icells L).length = 7 * 1 := by rw [icells_length, hL]
      have hone := icells_one L
      have HLL := Lib.hid hL
      have HIA : Hid (∀ Y, Below w.heap.size w Y → IAt Y g o L) := Lib.hid (fun Y hY j x hx => by
        rw [← hLd, List.getElem?_take] at hx
        split at hx
        · exact (IAt.kept h4 (hY.block g h3)) j x hx
        · cases hx)
      clear h h1 h2 h3 h4 hL hLd
      go_enter Tryz.func6, Tryz.ntmps6
      go_wp2_with (at_builtin; refine wpList_append_own _ rfl _ _ 22 rfl (w.heap.size + 2) 3 i0 _ 1 8 Tryz.underlying22 hi hz0 hz1 hz2 rfl (by decide) (.slice none 0 0) 0 [] rfl (World.ownsRow_nil _ _ _ _) ⟨g, o, none⟩ (7) cap (icells L) rfl hcl (HIA.out _ HT.out.b).cells hone (by unfold maxLen; omega) (by omega) (by simp) ?_)
      intro v' w1 hown hgrow hnil
      have ho : IOwn w1 (w.heap.size + 2) v' L := by unfold IOwn; rw [HLL.out]; simpa using hown
      have HZ := Lib.hid (HT.out.below ((Below.refl _ _).grown hgrow (Nat.le_refl _) (by intro k hk; simp [Value.ownBlock] at hk)))
      obtain ⟨a1, c1, rfl⟩ := ho.shape
      have HO := Lib.hid ho
      clear hown hgrow hnil ho HIA HT hcl hone hi hz0 hz1 hz2
      obtain ⟨⟨b0, b1, b2⟩, g0, g1, g2⟩ := HZ.out.a
      obtain ⟨⟨d0, d1, d2⟩, f0, f1, f2⟩ := HZ.out.z
      go_wp2_with fail
      have hA : RC (w1.setCell ⟨w.heap.size, 1, none⟩ (.slice a1 L.length c1)) w.heap.size e (.slice a1 L.length c1) nw := ⟨⟨by go_simp, by go_simp, by go_simp⟩, by go_simp, by go_simp, by go_simp⟩
      have hb1 : Below w.heap.size w (w1.setCell ⟨w.heap.size, 1, none⟩ (.slice a1 L.length c1)) := HZ.out.b.setCell (p := ⟨w.heap.size, 1, none⟩) (Nat.le_refl _) (.slice a1 L.length c1)
      have hz1 : RC (w1.setCell ⟨w.heap.size, 1, none⟩ (.slice a1 L.length c1)) (w.heap.size + 1) 0 (.slice none 0 0) 0 := HZ.out.z.kept (Below.heap_setCell _ _ _ _ (by simp))
      have ho1 : IOwn (w1.setCell ⟨w.heap.size, 1, none⟩ (.slice a1 L.length c1)) (w.heap.size + 2) (.slice a1 L.length c1) L := HO.out.kept (fun j hj => Below.heap_setCell _ _ _ _ (by have := (HO.out.lt hj).1; simp; omega))
      have hF := box_facts (W := w1.setCell ⟨w.heap.size, 1, none⟩ (.slice a1 L.length c1)) (e0 := e) (ad0 := a1) (m0 := L.length) (cap0 := c1) (nw0 := nw) (l0 := L) ⟨hA, hz1, ho1.at, hb1⟩ e nw a1 L.length c1
      dsimp only at hF
      obtain ⟨t0, t1, t2, hB3, hk⟩ := hF
      exact bodyPost_ret (v := .agg #[.int .i64 e, .slice a1 L.length c1, .int .i64 nw]) (by simp [results, Tryz.results6, go_sem, t0, t1, t2]) rfl ⟨_, _, rfl, (ho1.mono (show w.heap.size ≤ w.heap.size + 2 by omega)).kept (fun j hj => hk j (by have := (ho1.lt hj).1; omega)), hB3⟩
end Go.Proofs.YtaacdggjkfmehaaGreatDoor
