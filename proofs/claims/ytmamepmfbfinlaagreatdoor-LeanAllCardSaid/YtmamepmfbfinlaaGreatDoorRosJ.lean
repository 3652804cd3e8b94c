/-
  The laws' Roster, and the values with which they begin.
-/
import Derived.Test.YtmamepmfbfinlaaGreatDoorRosI
namespace Go.Proofs.YtmamepmfbfinlaaGreatDoor
open Go.RowKit

/-- A chain in a box. -/
structure CB (W : World) (b : Nat) (r : Ro) (ad : Option Addr) (m cap : Nat) : Prop where
  c : RC W b r.ep (.slice ad m cap) r.nw
  v : IsAt W (.slice ad m cap) r.l

theorem CB.below {W W' : World} {b : Nat} {r : Ro} {ad : Option Addr} {m cap : Nat} (h : CB W b r ad m cap) (hb : Below W.heap.size W W') : CB W' b r ad m cap := ⟨h.c.below hb, h.v.below hb⟩

theorem cb_new (W : World) (r : Ro) (ad : Option Addr) (cap : Nat) (h : IsAt W (.slice ad r.l.length cap) r.l) : CB (W.alloc (.cells #[.int .i64 r.ep, .slice ad r.l.length cap, .int .i64 r.nw] 24)) W.heap.size r ad r.l.length cap :=
  ⟨RC.new W r.ep ad r.l.length cap r.nw 24, h.below ((Below.refl _ _).alloc (Nat.le_refl _) _)⟩

set_option maxRecDepth 100000 in
set_option maxHeartbeats 4000000 in
theorem lroster_p (e nw : Int) (v : Value) (l : List Int) (w : World) (h : IsAt w v l) (hn : l.length ≤ 9223372036854775807) :
    Calls Tryz.prog 9 #[.agg #[.int .i64 e, v, .int .i64 nw]] w fun r w' => ∃ ad cap, r = .returned (.agg #[.int .i64 e, .slice ad (l.take 7).length cap, .int .i64 nw]) ∧ IOwn w' w.heap.size (.slice ad (l.take 7).length cap) (l.take 7) ∧ Below w.heap.size w w' := by
  obtain ⟨i0, hi, hz0, hz1, hz2⟩ := int_info
  rcases h with ⟨rfl, rfl⟩ | ⟨g, o, cap, rfl, h1, h2, h3, h4⟩
  · have hrun : ∀ (ty : TypeId) (W : World), (Builtin.append_ #[22, 22] ty #[.slice none 0 0, .slice none 0 0]).run Tryz.prog W = .ok (.slice none 0 0) W := fun ty W => app_nil_run (P := Tryz.prog) (w := W) 22 ty 3 i0 Tryz.underlying22 hi
    have hmin : min (0 : Int) 7 = 0 := by decide
    obtain ⟨_, ⟨⟨t0, t1, t2⟩, _⟩, hb⟩ := two_boxes w e nw e nw none none 0 0 0 0 24
    go_enter Tryz.func9, Tryz.ntmps9
    go_wp2_with fail
    exact bodyPost_ret (v := .agg #[.int .i64 e, .slice none 0 0, .int .i64 nw]) (by simp [results, Tryz.results9, go_sem, t0, t1, t2]) rfl ⟨none, 0, rfl, IOwn.nil _ _, hb⟩
  · have h : IsAt w (.slice (some ⟨g, o, none⟩) l.length cap) l := .inr ⟨g, o, cap, rfl, h1, h2, h3, h4⟩
    have HT := Lib.hid (twoB_new w e nw (some ⟨g, o, none⟩) cap l h)
    obtain ⟨L, hLd⟩ : ∃ L, l.take 7 = L := ⟨_, rfl⟩
    rw [hLd]
    by_cases h7 : l.length ≤ 7
    case pos =>
      have h7z : (l.length : Int) ≤ 7 := by omega
      have hmn : min (l.length : Int) 7 = (l.length : Int) := by omega
      have hcz : (l.length : Int) ≤ (cap : Int) := by omega
      have hL : L.length = l.length := by rw [← hLd, List.length_take]; omega
      have hcl : (icells L).length = l.length * 1 := by rw [icells_length, hL]
      have hone := icells_one L
      have HLL := Lib.hid hL
      have HIA : Hid (∀ Y, Below w.heap.size w Y → IAt Y g o L) := Lib.hid (fun Y hY j x hx => by
        rw [← hLd, List.getElem?_take] at hx
        split at hx
        · exact (IAt.kept h4 (hY.block g h3)) j x hx
        · cases hx)
      clear h h1 h2 h3 h4 hL hLd
      go_enter Tryz.func9, Tryz.ntmps9
      go_wp2_with (at_builtin; refine wpList_append_own _ rfl _ _ 22 rfl (w.heap.size + 2) 3 i0 _ 1 8 Tryz.underlying22 hi hz0 hz1 hz2 rfl (by decide) (.slice none 0 0) 0 [] rfl (World.ownsRow_nil _ _ _ _) ⟨g, o, none⟩ (l.length) cap (icells L) rfl hcl (HIA.out _ HT.out.b).cells hone (by unfold maxLen; omega) (by omega) (by simp) ?_)
      intro v' w1 hown hgrow hnil
      have ho : IOwn w1 (w.heap.size + 2) v' L := by unfold IOwn; rw [HLL.out]; simpa using hown
      have HZ := Lib.hid (HT.out.below ((Below.refl _ _).grown hgrow (Nat.le_refl _) (by intro k hk; simp [Value.ownBlock] at hk)))
      obtain ⟨a1, c1, rfl⟩ := ho.shape
      have HO := Lib.hid ho
      clear hown hgrow hnil ho HIA HT hcl hone hi hz0 hz1 hz2
      obtain ⟨⟨b0, b1, b2⟩, g0, g1, g2⟩ := HZ.out.a
      obtain ⟨⟨d0, d1, d2⟩, f0, f1, f2⟩ := HZ.out.z
      go_wp2_with fail
      have hA : RC (w1.setCell ⟨w.heap.size, 1, none⟩ (.slice a1 L.length c1)) w.heap.size e (.slice a1 L.length c1) nw := ⟨⟨by go_simp, by go_simp, by go_simp⟩, by go_simp, by go_simp, by go_simp⟩
      have hb1 : Below w.heap.size w (w1.setCell ⟨w.heap.size, 1, none⟩ (.slice a1 L.length c1)) := HZ.out.b.setCell (p := ⟨w.heap.size, 1, none⟩) (Nat.le_refl _) (.slice a1 L.length c1)
      have hz1 : RC (w1.setCell ⟨w.heap.size, 1, none⟩ (.slice a1 L.length c1)) (w.heap.size + 1) 0 (.slice none 0 0) 0 := HZ.out.z.kept (Below.heap_setCell _ _ _ _ (by simp))
      have ho1 : IOwn (w1.setCell ⟨w.heap.size, 1, none⟩ (.slice a1 L.length c1)) (w.heap.size + 2) (.slice a1 L.length c1) L := HO.out.kept (fun j hj => Below.heap_setCell _ _ _ _ (by have := (HO.out.lt hj).1; simp; omega))
      have hF := box_facts (W := w1.setCell ⟨w.heap.size, 1, none⟩ (.slice a1 L.length c1)) (e0 := e) (ad0 := a1) (m0 := L.length) (cap0 := c1) (nw0 := nw) (l0 := L) ⟨hA, hz1, ho1.at, hb1⟩ e nw a1 L.length c1
      dsimp only at hF
      obtain ⟨t0, t1, t2, hB3, hk⟩ := hF
      exact bodyPost_ret (v := .agg #[.int .i64 e, .slice a1 L.length c1, .int .i64 nw]) (by simp [results, Tryz.results9, go_sem, t0, t1, t2]) rfl ⟨_, _, rfl, (ho1.mono (show w.heap.size ≤ w.heap.size + 2 by omega)).kept (fun j hj => hk j (by have := (ho1.lt hj).1; omega)), hB3⟩
    case neg =>
      have h7z : ¬ (l.length : Int) ≤ 7 := by omega
      have hmn : min (l.length : Int) 7 = 7 := by omega
      have h7y : (7 : Int) < (l.length : Int) := by omega
      have hcz : (7 : Int) ≤ (cap : Int) := by omega
      have hcn : 7 ≤ cap := by omega
      have hL : L.length = 7 := by rw [← hLd, List.length_take]; omega
      have hcl : (icells L).length = 7 * 1 := by rw [icells_length, hL]
      have hone := icells_one L
      have HLL := Lib.hid hL
      have HIA : Hid (∀ Y, Below w.heap.size w Y → IAt Y g o L) := Lib.hid (fun Y hY j x hx => by
        rw [← hLd, List.getElem?_take] at hx
        split at hx
        · exact (IAt.kept h4 (hY.block g h3)) j x hx
        · cases hx)
      clear h h1 h2 h3 h4 hL hLd
      go_enter Tryz.func9, Tryz.ntmps9
      go_wp2_with (at_builtin; refine wpList_append_own _ rfl _ _ 22 rfl (w.heap.size + 2) 3 i0 _ 1 8 Tryz.underlying22 hi hz0 hz1 hz2 rfl (by decide) (.slice none 0 0) 0 [] rfl (World.ownsRow_nil _ _ _ _) ⟨g, o, none⟩ (7) cap (icells L) rfl hcl (HIA.out _ HT.out.b).cells hone (by unfold maxLen; omega) (by omega) (by simp) ?_)
      intro v' w1 hown hgrow hnil
      have ho : IOwn w1 (w.heap.size + 2) v' L := by unfold IOwn; rw [HLL.out]; simpa using hown
      have HZ := Lib.hid (HT.out.below ((Below.refl _ _).grown hgrow (Nat.le_refl _) (by intro k hk; simp [Value.ownBlock] at hk)))
      obtain ⟨a1, c1, rfl⟩ := ho.shape
      have HO := Lib.hid ho
      clear hown hgrow hnil ho HIA HT hcl hone hi hz0 hz1 hz2
      obtain ⟨⟨b0, b1, b2⟩, g0, g1, g2⟩ := HZ.out.a
      obtain ⟨⟨d0, d1, d2⟩, f0, f1, f2⟩ := HZ.out.z
      go_wp2_with fail
      have hA : RC (w1.setCell ⟨w.heap.size, 1, none⟩ (.slice a1 L.length c1)) w.heap.size e (.slice a1 L.length c1) nw := ⟨⟨by go_simp, by go_simp, by go_simp⟩, by go_simp, by go_simp, by go_simp⟩
      have hb1 : Below w.heap.size w (w1.setCell ⟨w.heap.size, 1, none⟩ (.slice a1 L.length c1)) := HZ.out.b.setCell (p := ⟨w.heap.size, 1, none⟩) (Nat.le_refl _) (.slice a1 L.length c1)
      have hz1 : RC (w1.setCell ⟨w.heap.size, 1, none⟩ (.slice a1 L.length c1)) (w.heap.size + 1) 0 (.slice none 0 0) 0 := HZ.out.z.kept (Below.heap_setCell _ _ _ _ (by simp))
      have ho1 : IOwn (w1.setCell ⟨w.heap.size, 1, none⟩ (.slice a1 L.length c1)) (w.heap.size + 2) (.slice a1 L.length c1) L := HO.out.kept (fun j hj => Below.heap_setCell _ _ _ _ (by have := (HO.out.lt hj).1; simp; omega))
      have hF := box_facts (W := w1.setCell ⟨w.heap.size, 1, none⟩ (.slice a1 L.length c1)) (e0 := e) (ad0 := a1) (m0 := L.length) (cap0 := c1) (nw0 := nw) (l0 := L) ⟨hA, hz1, ho1.at, hb1⟩ e nw a1 L.length c1
      dsimp only at hF
      obtain ⟨t0, t1, t2, hB3, hk⟩ := hF
      exact bodyPost_ret (v := .agg #[.int .i64 e, .slice a1 L.length c1, .int .i64 nw]) (by simp [results, Tryz.results9, go_sem, t0, t1, t2]) rfl ⟨_, _, rfl, (ho1.mono (show w.heap.size ≤ w.heap.size + 2 by omega)).kept (fun j hj => hk j (by have := (ho1.lt hj).1; omega)), hB3⟩

theorem isat_two (w : World) (x y : Int) : IsAt (w.alloc (.cells #[.int .i64 x, .int .i64 y] 3)) (.slice (some ⟨w.heap.size, 0, none⟩) 2 2) [x, y] :=
  .inr ⟨w.heap.size, 0, 2, rfl, by simp, by unfold maxLen; omega, by simp, fun j z hz => by
    match j, hz with
    | 0, hz => simp at hz; subst hz; go_simp
    | 1, hz => simp at hz; subst hz; go_simp
    | j + 2, hz => simp at hz⟩

set_option maxRecDepth 100000 in
set_option maxHeartbeats 8000000 in
theorem begun9_p (w : World) : Calls Tryz.prog 29 #[] w fun e w' => e = .returned (.bool true) ∧ Below w.heap.size w w' := by
  go_enter Tryz.func29, Tryz.ntmps29
  go_wp2_with fail
  have hb0 : Below w.heap.size w ((w.alloc (.cells #[.int .i64 2, .int .i64 4] 3)).alloc (.cells #[.int .i64 1, .slice (some ⟨w.heap.size, 0, none⟩) 2 2, .int .i64 0] 24)) := ((Below.refl _ w).alloc (Nat.le_refl _) _).alloc (by simp) _
  have hi0 : IsAt (w.alloc (.cells #[.int .i64 2, .int .i64 4] 3)) (.slice (some ⟨w.heap.size, 0, none⟩) 2 2) [2, 4] := isat_two w 2 4
  have HR1 : Hid (CB ((w.alloc (.cells #[.int .i64 2, .int .i64 4] 3)).alloc (.cells #[.int .i64 1, .slice (some ⟨w.heap.size, 0, none⟩) 2 2, .int .i64 0] 24)) (w.heap.size + 1) ⟨1, [2, 4], 0⟩ (some ⟨w.heap.size, 0, none⟩) 2 2) := Lib.hid (by
    have := cb_new (w.alloc (.cells #[.int .i64 2, .int .i64 4] 3)) ⟨1, [2, 4], 0⟩ (some ⟨w.heap.size, 0, none⟩) 2 hi0
    simpa using this)
  have HB0 := Lib.hid hb0
  clear hb0 hi0
  generalize (w.alloc (.cells #[.int .i64 2, .int .i64 4] 3)).alloc (.cells #[.int .i64 1, .slice (some ⟨w.heap.size, 0, none⟩) 2 2, .int .i64 0] 24) = W1 at *
  refine (add_p 1 0 1 _ [2, 4] W1 HR1.out.v (by simp)).mono ?_
  rw [show addR ⟨1, [2, 4], 0⟩ 1 = (⟨2, [2, 4, 1], 1⟩, true) by kernel_rfl]
  rintro _ w2 ⟨a2, c2, rfl, ho, hy⟩
  dsimp only at ho ⊢
  simp only [List.length_cons, List.length_nil, Nat.zero_add, Nat.reduceAdd] at ho ⊢
  have hb : Below W1.heap.size W1 (w2.alloc (.cells #[.int .i64 2, .slice a2 3 c2, .int .i64 1] 24)) := hy.alloc hy.size _
  replace HR1 := Lib.hid (HR1.out.below hb)
  have HR2 : Hid (CB (w2.alloc (.cells #[.int .i64 2, .slice a2 3 c2, .int .i64 1] 24)) w2.heap.size ⟨2, [2, 4, 1], 1⟩ a2 3 c2) := Lib.hid (cb_new w2 ⟨2, [2, 4, 1], 1⟩ a2 c2 ho.at)
  replace HB0 := Lib.hid (HB0.out.trans (hb.mono HB0.out.size))
  clear hy hb ho
  go_wp2_with fail
  generalize (w2.alloc (.cells #[.int .i64 2, .slice a2 3 c2, .int .i64 1] 24)) = W2 at *
  generalize w2.heap.size = B2 at *
  refine (drop_p 2 1 2 _ [2, 4, 1] W2 HR2.out.v (by simp)).mono ?_
  rw [show dropR ⟨2, [2, 4, 1], 1⟩ 2 = (⟨3, [4, 1], 1⟩, true) by kernel_rfl]
  rintro _ w3 ⟨a3, c3, rfl, ho, hy⟩
  dsimp only at ho ⊢
  simp only [List.length_cons, List.length_nil, Nat.zero_add, Nat.reduceAdd] at ho ⊢
  have hb : Below W2.heap.size W2 (w3.alloc (.cells #[.int .i64 3, .slice a3 2 c3, .int .i64 1] 24)) := hy.alloc hy.size _
  replace HR1 := Lib.hid (HR1.out.below hb)
  replace HR2 := Lib.hid (HR2.out.below hb)
  have HR3 : Hid (CB (w3.alloc (.cells #[.int .i64 3, .slice a3 2 c3, .int .i64 1] 24)) w3.heap.size ⟨3, [4, 1], 1⟩ a3 2 c3) := Lib.hid (cb_new w3 ⟨3, [4, 1], 1⟩ a3 c3 ho.at)
  replace HB0 := Lib.hid (HB0.out.trans (hb.mono HB0.out.size))
  clear hy hb ho
  obtain ⟨⟨p0, p1, p2⟩, _⟩ := HR2.out.c
  dsimp only at p0 p1 p2
  go_wp2_with fail
  clear p0 p1 p2
  generalize (w3.alloc (.cells #[.int .i64 3, .slice a3 2 c3, .int .i64 1] 24)) = W3 at *
  generalize w3.heap.size = B3 at *
  refine (add_p 2 1 5 _ [2, 4, 1] W3 HR2.out.v (by simp)).mono ?_
  rw [show addR ⟨2, [2, 4, 1], 1⟩ 5 = (Ro.zero, false) by kernel_rfl]
  rintro _ w4 ⟨a4, c4, rfl, ho, hy⟩
  dsimp only [Ro.zero] at ho ⊢
  simp only [List.length_nil] at ho ⊢
  have hb : Below W3.heap.size W3 (w4.alloc (.cells #[.int .i64 0, .slice a4 0 c4, .int .i64 0] 24)) := hy.alloc hy.size _
  replace HR1 := Lib.hid (HR1.out.below hb)
  replace HR2 := Lib.hid (HR2.out.below hb)
  replace HR3 := Lib.hid (HR3.out.below hb)
  have HR4 : Hid (CB (w4.alloc (.cells #[.int .i64 0, .slice a4 0 c4, .int .i64 0] 24)) w4.heap.size Ro.zero a4 0 c4) := Lib.hid (cb_new w4 Ro.zero a4 c4 ho.at)
  replace HB0 := Lib.hid (HB0.out.trans (hb.mono HB0.out.size))
  clear hy hb ho
  go_wp2_with fail
  clear HR4
  have hs4 : (w4.alloc (.cells #[.int .i64 0, .slice a4 0 c4, .int .i64 0] 24)).heap.size = w4.heap.size + 1 := by simp
  generalize (w4.alloc (.cells #[.int .i64 0, .slice a4 0 c4, .int .i64 0] 24)) = W4 at *
  have hi5 : IsAt (W4.alloc (.cells #[.int .i64 2, .int .i64 4] 3)) (.slice (some ⟨W4.heap.size, 0, none⟩) 2 2) [2, 4] := isat_two W4 2 4
  have hb5 : Below W4.heap.size W4 (W4.alloc (.cells #[.int .i64 2, .int .i64 4] 3)) := (Below.refl _ _).alloc (Nat.le_refl _) _
  replace HR1 := Lib.hid (HR1.out.below hb5)
  replace HR2 := Lib.hid (HR2.out.below hb5)
  replace HR3 := Lib.hid (HR3.out.below hb5)
  replace HB0 := Lib.hid (HB0.out.trans (hb5.mono HB0.out.size))
  clear hb5
  rw [hs4] at hi5
  clear hs4
  generalize w4.heap.size + 1 = S5 at *
  generalize W4.alloc (.cells #[.int .i64 2, .int .i64 4] 3) = W5 at *
  refine (drop_p 1 4 2 _ [2, 4] W5 hi5 (by simp)).mono ?_
  rw [show dropR ⟨1, [2, 4], 4⟩ 2 = (Ro.zero, false) by kernel_rfl]
  rintro _ w5 ⟨a5, c5, rfl, ho, hy⟩
  dsimp only [Ro.zero] at ho ⊢
  simp only [List.length_nil] at ho ⊢
  have hb : Below W5.heap.size W5 (w5.alloc (.cells #[.int .i64 0, .slice a5 0 c5, .int .i64 0] 24)) := hy.alloc hy.size _
  replace HR1 := Lib.hid (HR1.out.below hb)
  replace HR2 := Lib.hid (HR2.out.below hb)
  replace HR3 := Lib.hid (HR3.out.below hb)
  replace HB0 := Lib.hid (HB0.out.trans (hb.mono HB0.out.size))
  clear hy hb ho hi5
  obtain ⟨⟨p0, p1, p2⟩, _⟩ := HR1.out.c
  dsimp only at p0 p1 p2
  go_wp2_with fail
  clear p0 p1 p2
  generalize w5.alloc (.cells #[.int .i64 0, .slice a5 0 c5, .int .i64 0] 24) = V0 at *
  refine (romay_p 1 0 _ [2, 4] V0 HR1.out.v (by simp)).mono ?_
  rw [show mayR ⟨1, [2, 4], 0⟩ = true by kernel_rfl]
  rintro _ V1 ⟨rfl, hb⟩
  replace HR1 := Lib.hid (HR1.out.below hb)
  replace HR2 := Lib.hid (HR2.out.below hb)
  replace HR3 := Lib.hid (HR3.out.below hb)
  replace HB0 := Lib.hid (HB0.out.trans (hb.mono HB0.out.size))
  clear hb
  obtain ⟨⟨p0, p1, p2⟩, _⟩ := HR1.out.c
  dsimp only at p0 p1 p2
  go_wp2_with fail
  clear p0 p1 p2
  refine (romay_p 0 0 _ [] V1 (.inl ⟨rfl, rfl⟩) (by simp)).mono ?_
  rw [show mayR ⟨0, [], 0⟩ = false by kernel_rfl]
  rintro _ V2 ⟨rfl, hb⟩
  replace HR1 := Lib.hid (HR1.out.below hb)
  replace HR2 := Lib.hid (HR2.out.below hb)
  replace HR3 := Lib.hid (HR3.out.below hb)
  replace HB0 := Lib.hid (HB0.out.trans (hb.mono HB0.out.size))
  clear hb
  obtain ⟨⟨p0, p1, p2⟩, _⟩ := HR1.out.c
  dsimp only at p0 p1 p2
  go_wp2_with fail
  clear p0 p1 p2
  refine (has_p 1 0 4 _ [2, 4] V2 HR1.out.v (by simp)).mono ?_
  rw [show hasI [2, 4] 4 = true by kernel_rfl]
  rintro _ V3 ⟨rfl, hb⟩
  replace HR1 := Lib.hid (HR1.out.below hb)
  replace HR2 := Lib.hid (HR2.out.below hb)
  replace HR3 := Lib.hid (HR3.out.below hb)
  replace HB0 := Lib.hid (HB0.out.trans (hb.mono HB0.out.size))
  clear hb
  obtain ⟨⟨p0, p1, p2⟩, _⟩ := HR1.out.c
  dsimp only at p0 p1 p2
  go_wp2_with fail
  clear p0 p1 p2
  refine (has_p 1 0 1 _ [2, 4] V3 HR1.out.v (by simp)).mono ?_
  rw [show hasI [2, 4] 1 = false by kernel_rfl]
  rintro _ V4 ⟨rfl, hb⟩
  replace HR1 := Lib.hid (HR1.out.below hb)
  replace HR2 := Lib.hid (HR2.out.below hb)
  replace HR3 := Lib.hid (HR3.out.below hb)
  replace HB0 := Lib.hid (HB0.out.trans (hb.mono HB0.out.size))
  clear hb
  obtain ⟨⟨p0, p1, p2⟩, _⟩ := HR1.out.c
  dsimp only at p0 p1 p2
  go_wp2_with fail
  clear p0 p1 p2
  refine (head_p 1 0 _ [2, 4] V4 HR1.out.v).mono ?_
  rw [show getI [2, 4] 0 = 2 by kernel_rfl]
  rintro _ V5 ⟨rfl, hb⟩
  replace HR1 := Lib.hid (HR1.out.below hb)
  replace HR2 := Lib.hid (HR2.out.below hb)
  replace HR3 := Lib.hid (HR3.out.below hb)
  replace HB0 := Lib.hid (HB0.out.trans (hb.mono HB0.out.size))
  clear hb
  obtain ⟨⟨p0, p1, p2⟩, _⟩ := HR1.out.c
  dsimp only at p0 p1 p2
  go_wp2_with fail
  clear p0 p1 p2
  refine (tail_p 1 0 _ [2, 4] V5 HR1.out.v (by simp)).mono ?_
  rw [show tailI [2, 4] = 4 by kernel_rfl]
  rintro _ V6 ⟨rfl, hb⟩
  replace HR1 := Lib.hid (HR1.out.below hb)
  replace HR2 := Lib.hid (HR2.out.below hb)
  replace HR3 := Lib.hid (HR3.out.below hb)
  replace HB0 := Lib.hid (HB0.out.trans (hb.mono HB0.out.size))
  clear hb
  obtain ⟨⟨p0, p1, p2⟩, _⟩ := HR1.out.c
  dsimp only at p0 p1 p2
  go_wp2_with fail
  clear p0 p1 p2
  refine (next_p 1 0 2 _ [2, 4] V6 HR1.out.v (by simp)).mono ?_
  rw [show nextI [2, 4] 2 = 4 by kernel_rfl]
  rintro _ V7 ⟨rfl, hb⟩
  replace HR1 := Lib.hid (HR1.out.below hb)
  replace HR2 := Lib.hid (HR2.out.below hb)
  replace HR3 := Lib.hid (HR3.out.below hb)
  replace HB0 := Lib.hid (HB0.out.trans (hb.mono HB0.out.size))
  clear hb
  obtain ⟨⟨p0, p1, p2⟩, _⟩ := HR1.out.c
  dsimp only at p0 p1 p2
  go_wp2_with fail
  clear p0 p1 p2
  refine (ahead_p 1 0 2 _ [2, 4] V7 HR1.out.v (by simp)).mono ?_
  rw [show aheadI [2, 4] 2 = 0 by kernel_rfl]
  rintro _ V8 ⟨rfl, hb⟩
  replace HR1 := Lib.hid (HR1.out.below hb)
  replace HR2 := Lib.hid (HR2.out.below hb)
  replace HR3 := Lib.hid (HR3.out.below hb)
  replace HB0 := Lib.hid (HB0.out.trans (hb.mono HB0.out.size))
  clear hb
  obtain ⟨⟨p0, p1, p2⟩, _⟩ := HR2.out.c
  obtain ⟨⟨q0, q1, q2⟩, _⟩ := HR3.out.c
  dsimp only at p0 p1 p2 q0 q1 q2
  go_wp2_with fail
  go_ret
  exact ⟨rfl, HB0.out⟩

end Go.Proofs.YtmamepmfbfinlaaGreatDoor
