/-
  begun answers true.
-/
import Derived.Test.YtmamepmfbfinlaaGreatDoorBegunA
import Derived.Test.YtmamepmfbfinlaaGreatDoorEqs
import Derived.Test.YtmamepmfbfinlaaGreatDoorLaw1
namespace Go.Proofs.YtmamepmfbfinlaaGreatDoor
open Go.RowKit Go.Proofs.Flo Go.Proofs.Cpl

theorem fk_n2 : fk 0 2 = 4611686018427387904 := by decide
theorem fk_n4 : fk 0 4 = 4616189618054758400 := by decide
theorem fk_n7 : fk 0 7 = 4619567317775286272 := by decide
theorem fk_n22 : fk 0 22 = 4626885667169763328 := by decide
theorem fk_n255 : fk 0 255 = 4643176031446892544 := by decide
theorem fk_n65514 : fk 0 65514 = 4679236989180968960 := by decide
theorem fk_n65517 : fk 0 65517 = 4679237401497829376 := by decide

theorem mul_b (w : World) : Calls Tryz.prog 32 #[.complex .f64 4611686018427387904 4613937818241073152, .complex .f64 4616189618054758400 4617315517961601024] w fun e w' => e = .returned (.complex .f64 4679236989180968960 4626885667169763328) ∧ w = w' := by
  have h := mul_gc (2, 3) (4, 5) (by unfold Ok; decide) (by unfold Ok; decide) w
  rw [show gmul (2, 3) (4, 5) = (65514, 22) from by decide] at h
  simp only [fk_n2, fk_three, fk_n4, fk_five, fk_n65514, fk_n22] at h
  exact h

def TX : ByteArray := ⟨#[48, 48, 48, 55, 48, 48, 102, 102]⟩

theorem text_b (w : World) (h : LibAt w) : Calls Tryz.prog 40 #[.complex .f64 4619567317775286272 4643176031446892544] w fun e w' => e = .returned (.string TX) ∧ Below w.heap.size w w' := by
  have h := gtext (7, 255) (by unfold Ok; decide) w h.1
  simp only [fk_n7, fk_n255] at h
  exact h

theorem read_b (w : World) (h : LibAt w) : Calls Tryz.prog 39 #[.string TX] w fun e w' => e = .returned (.tuple #[.complex .f64 4619567317775286272 4643176031446892544, .bool true]) ∧ Below w.heap.size w w' := by
  have h := gread_yes TX (7, 255) ⟨by unfold Ok; decide, rfl⟩ w h.1 h.2.1
  simp only [fk_n7, fk_n255] at h
  exact h

theorem mark_a (w : World) : Calls Tryz.prog 34 #[.slice none 0 0] w fun e w' => e = .returned (.complex .f64 0 4607182418800017408) ∧ w = w' := by
  have h := mark_nil w
  unfold gc at h
  simp only [fk_zero, fk_one] at h
  exact h

theorem mark_b (b cap : Nat) (w : World) (hc : w.cell? ⟨b, 0, none⟩ = some (.int .u8 0)) : Calls Tryz.prog 34 #[.slice (some ⟨b, 0, none⟩) 1 cap] w fun e w' => e = .returned (.complex .f64 4679237401497829376 4613937818241073152) ∧ w = w' := by
  have h := mark_gc b 0 cap [0] (by unfold maxLen; decide) w (fun i hi => by
    have : i = 0 := by simp at hi; exact hi
    subst this
    exact hc)
  rw [show gon (0, 1) [0] = (65517, 3) from by decide] at h
  unfold gc at h
  simp only [fk_n65517, fk_three] at h
  exact h

theorem bl_wf : BL.wf := by unfold BL F.wf; simp [F.wf]

theorem put_b (b cap : Nat) (w : World) (h : LibAt w) (hr : RepF w b 0 BL) : Calls Tryz.prog 37 #[.agg #[.int .i64 3, .int .i64 0, .string ⟨#[]⟩, .slice (some ⟨b, 0, none⟩) 2 cap]] w fun e w' => e = .returned (.string BT) ∧ Below w.heap.size w w' := by
  have h := Put_p 3 0 ⟨#[]⟩ BL (some ⟨b, 0, none⟩) cap w h.2.2.2 (by decide) bl_wf (.inr ⟨b, 0, rfl, hr⟩)
  rw [bl_put] at h
  exact h

theorem get_b1 (w : World) (h : LibAt w) : Calls Tryz.prog 38 #[.string (BT ++ ⟨#[122]⟩)] w fun e w' => Below w.heap.size w w' ∧ ∃ x o cap, e = .returned (.tuple #[.agg #[.int .i64 3, .int .i64 0, .string ⟨#[]⟩, .slice (some ⟨x, o, none⟩) 2 cap], .int .i64 14, .int .i64 0]) ∧ RepA w' (fun b => w.heap.size ≤ b) x o BL := by
  have h := Get_p (BT ++ ⟨#[122]⟩) w (by decide) h
  rw [get_t] at h
  refine h.mono ?_
  rintro e w' ⟨hb, ad, cap, rfl, hg⟩
  rcases hg with h0 | ⟨x, o, he, hg⟩
  · cases h0
  · subst he
    exact ⟨hb, x, o, _, rfl, hg⟩

theorem get_b2 (w : World) (h : LibAt w) : Calls Tryz.prog 38 #[.string (BT.extract 0 4)] w fun e w' => e = .returned (.tuple #[.agg #[.int .i64 0, .int .i64 0, .string ⟨#[]⟩, .slice none 0 0], .int .i64 0, .int .i64 2]) ∧ Below w.heap.size w w' := by
  have h := Get_p (BT.extract 0 4) w (by decide) h
  rw [get_m] at h
  exact h.mono fun _ _ h => ⟨h.2, h.1⟩

theorem get_b3 (w : World) (h : LibAt w) : Calls Tryz.prog 38 #[.string ⟨#[120]⟩] w fun e w' => e = .returned (.tuple #[.agg #[.int .i64 0, .int .i64 0, .string ⟨#[]⟩, .slice none 0 0], .int .i64 0, .int .i64 1]) ∧ Below w.heap.size w w' := by
  have h := Get_p ⟨#[120]⟩ w (by decide) h
  rw [get_x] at h
  exact h.mono fun _ _ h => ⟨h.2, h.1⟩

theorem bt_size : BT.size = 14 := rfl
theorem bt_list : BT.toList = [49, 48, 58, 50, 58, 45, 53, 35, 50, 58, 97, 98, 44, 93] := by rw [ByteArray.toList_eq]; rfl
theorem tx_list : TX.toList = [48, 48, 48, 55, 48, 48, 102, 102] := by rw [ByteArray.toList_eq]; rfl

/-- Where begun's values lie. -/
def VAt (b y oy cy : Nat) (w : World) : Prop :=
  w.cell? ⟨b, 0, none⟩ = some (.int .i64 3) ∧ w.cell? ⟨b, 1, none⟩ = some (.int .i64 0) ∧ w.cell? ⟨b, 2, none⟩ = some (.string ⟨#[]⟩) ∧ w.cell? ⟨b, 3, none⟩ = some (.slice (some ⟨y, oy, none⟩) 2 cy) ∧ RepF w y oy BL ∧ (∃ cur t, w.heap[y]? = some (.cells cur t (0, 0)))

theorem heap_lt {w : World} {b : Nat} {o : Obj} (h : w.heap[b]? = some o) : b < w.heap.size := by
  rcases Nat.lt_or_ge b w.heap.size with h1 | h1
  · exact h1
  · rw [Array.getElem?_eq_none h1] at h
    cases h

theorem VAt.below {b y oy cy : Nat} {w w' : World} (h : VAt b y oy cy w) (hb : Below w.heap.size w w') : VAt b y oy cy w' := by
  obtain ⟨h0, h1, h2, h3, h4, cur, t, h5⟩ := h
  exact ⟨cell_kept hb (Nat.le_refl _) h0, cell_kept hb (Nat.le_refl _) h1, cell_kept hb (Nat.le_refl _) h2, cell_kept hb (Nat.le_refl _) h3, RepF.kept hb (Nat.le_refl _) _ _ _ h4, cur, t, by rw [hb.block _ (heap_lt h5)]; exact h5⟩

theorem bl_two {w : World} {b o : Nat} (h : RepF w b o BL) (hc : ∃ cur t, w.heap[b]? = some (.cells cur t (0, 0))) : Two w b o := by
  obtain ⟨h0, h1, h2, ⟨a, c, h3, _⟩, h4, h5, h6, ⟨a', c', h7, _⟩, _⟩ := h
  exact ⟨h0, h1, h2, ⟨a, c, h3⟩, h4, h5, h6, ⟨a', c', h7⟩, hc⟩

theorem v_start (w : World) : VAt (w.heap.size + 1) w.heap.size 0 2 ((w.alloc (.cells #[.int .i64 1, .int .i64 (-5), .string ⟨#[]⟩, .slice none 0 0, .int .i64 2, .int .i64 0, .string ⟨#[97, 98]⟩, .slice none 0 0] 61)).alloc (.cells #[.int .i64 3, .int .i64 0, .string ⟨#[]⟩, .slice (some ⟨w.heap.size, 0, none⟩) 2 2] 61)) := by
  refine ⟨?_, ?_, ?_, ?_, ?_, ?_⟩
  · go_simp
  · go_simp
  · go_simp
  · go_simp
  · unfold BL RepF RepF RepF
    refine ⟨?_, ?_, ?_, ⟨none, 0, ?_, .inl rfl⟩, ?_, ?_, ?_, ⟨none, 0, ?_, .inl rfl⟩, trivial⟩ <;> ((try simp only [F.len]); go_simp)
  · exact ⟨#[.int .i64 1, .int .i64 (-5), .string ⟨#[]⟩, .slice none 0 0, .int .i64 2, .int .i64 0, .string ⟨#[97, 98]⟩, .slice none 0 0], 61, ((Below.alloc (Below.refl (w.alloc (.cells #[.int .i64 1, .int .i64 (-5), .string ⟨#[]⟩, .slice none 0 0, .int .i64 2, .int .i64 0, .string ⟨#[97, 98]⟩, .slice none 0 0] 61)).heap.size _) (Nat.le_refl _) _).block _ (by simp)).trans (heap_alloc_new w _)⟩

theorem v_made {w : World} {x o cap : Nat} {A : Nat → Prop} (hx : RepA w A x o BL) : VAt w.heap.size x o cap (w.alloc (.cells #[.int .i64 3, .int .i64 0, .string ⟨#[]⟩, .slice (some ⟨x, o, none⟩) 2 cap] 61)) := by
  have hb : Below w.heap.size w (w.alloc (.cells #[.int .i64 3, .int .i64 0, .string ⟨#[]⟩, .slice (some ⟨x, o, none⟩) 2 cap] 61)) := (Below.refl _ _).alloc (Nat.le_refl _) _
  obtain ⟨cur, t, hc⟩ := hx.1.2
  refine ⟨?_, ?_, ?_, ?_, RepF.kept hb (Nat.le_refl _) _ _ _ hx.repF, cur, t, by rw [hb.block _ (heap_lt hc)]; exact hc⟩
  · go_simp
  · go_simp
  · go_simp
  · go_simp

set_option maxRecDepth 100000 in
set_option maxHeartbeats 4000000 in
theorem begun_true : BegunTrue := by
  intro w hL
  have HL := Lib.hid hL
  have q1 := bt_size
  have q2 := bt_list
  have q3 := tx_list
  clear hL
  go_enter Tryz.func28, Tryz.ntmps28
  go_wp2_with fail
  refine (mul_b _).mono ?_
  rintro _ w' ⟨rfl, rfl⟩
  go_wp2_with fail
  have hb1 : Below w.heap.size w ((w.alloc (.cells #[.int .i64 1, .int .i64 (-5), .string ⟨#[]⟩, .slice none 0 0, .int .i64 2, .int .i64 0, .string ⟨#[97, 98]⟩, .slice none 0 0] 61)).alloc (.cells #[.int .i64 3, .int .i64 0, .string ⟨#[]⟩, .slice (some ⟨w.heap.size, 0, none⟩) 2 2] 61)) := ((Below.refl _ _).alloc (Nat.le_refl _) _).alloc (by simp) _
  have hv1 := v_start w
  refine (put_b w.heap.size 2 _ (HL.out.below hb1) hv1.2.2.2.2.1).mono ?_
  rintro _ w1 ⟨rfl, hc⟩
  have HV1 := Lib.hid (hv1.below hc)
  have HB1 := Lib.hid (hb1.trans (hc.mono hb1.size))
  clear hb1 hv1 hc
  go_wp2_with fail
  refine (get_b1 _ (HL.out.below HB1.out)).mono ?_
  rintro _ w2 ⟨hc, x, o, cap, rfl, hx⟩
  have hxge : w1.heap.size ≤ x := hx.1.1
  have hb2 : Below w.heap.size w (w2.alloc (.cells #[.int .i64 3, .int .i64 0, .string ⟨#[]⟩, .slice (some ⟨x, o, none⟩) 2 cap] 61)) := (HB1.out.trans (hc.mono HB1.out.size)).alloc (Nat.le_trans HB1.out.size hc.size) _
  have HX2 := Lib.hid (v_made (cap := cap) hx)
  have HV2 : Hid (VAt (w.heap.size + 1) w.heap.size 0 2 (w2.alloc (.cells #[.int .i64 3, .int .i64 0, .string ⟨#[]⟩, .slice (some ⟨x, o, none⟩) 2 cap] 61))) := Lib.hid (HV1.out.below (hc.alloc hc.size _))
  have HB2 := Lib.hid hb2
  have HW1 : Hid (w.heap.size < w1.heap.size) := Lib.hid (by have := heap_lt HV1.out.2.2.2.2.2.choose_spec.choose_spec; exact this)
  clear hc hx hb2
  go_wp2_with fail
  refine (get_b2 _ (HL.out.below HB2.out)).mono ?_
  rintro _ w3 ⟨rfl, hc⟩
  have hc3 := hc.alloc hc.size (.cells #[.int .i64 0, .int .i64 0, .string ⟨#[]⟩, .slice none 0 0] 61)
  have HX3 := Lib.hid (HX2.out.below hc3)
  have HV3 := Lib.hid (HV2.out.below hc3)
  have HB3 := Lib.hid (HB2.out.trans (hc3.mono HB2.out.size))
  clear hc hc3
  go_wp2_with fail
  refine (get_b3 _ (HL.out.below HB3.out)).mono ?_
  rintro _ w4 ⟨rfl, hc⟩
  have hc4 := hc.alloc hc.size (.cells #[.int .i64 0, .int .i64 0, .string ⟨#[]⟩, .slice none 0 0] 61)
  have HX4 := Lib.hid (HX3.out.below hc4)
  have HV4 := Lib.hid (HV3.out.below hc4)
  have HB4 := Lib.hid (HB3.out.trans (hc4.mono HB3.out.size))
  clear hc hc4
  go_wp2_with fail
  refine (text_b _ (HL.out.below HB4.out)).mono ?_
  rintro _ w5 ⟨rfl, hc⟩
  have HX5 := Lib.hid (HX4.out.below hc)
  have HV5 := Lib.hid (HV4.out.below hc)
  have HB5 := Lib.hid (HB4.out.trans (hc.mono HB4.out.size))
  clear hc
  go_wp2_with fail
  refine (read_b _ (HL.out.below HB5.out)).mono ?_
  rintro _ w6 ⟨rfl, hc⟩
  have HX6 := Lib.hid (HX5.out.below hc)
  have HV6 := Lib.hid (HV5.out.below hc)
  have HB6 := Lib.hid (HB5.out.trans (hc.mono HB5.out.size))
  clear hc
  have s1 : (FloatKind.f64.format.order 4679236989180968960 4679236989180968960 == some .eq) = true := by decide
  have s2 : (FloatKind.f64.format.order 4626885667169763328 4626885667169763328 == some .eq) = true := by decide
  have s3 : (FloatKind.f64.format.order 0 0 == some .eq) = true := by decide
  have s4 : (FloatKind.f64.format.order 4607182418800017408 4607182418800017408 == some .eq) = true := by decide
  have s5 : (FloatKind.f64.format.order 4679237401497829376 4679237401497829376 == some .eq) = true := by decide
  have s6 : (FloatKind.f64.format.order 4613937818241073152 4613937818241073152 == some .eq) = true := by decide
  have s7 : (FloatKind.f64.format.order 4619567317775286272 4619567317775286272 == some .eq) = true := by decide
  have s8 : (FloatKind.f64.format.order 4643176031446892544 4643176031446892544 == some .eq) = true := by decide
  go_wp2_with fail
  refine (mark_a _).mono ?_
  rintro _ w' ⟨rfl, rfl⟩
  go_wp2_with fail
  refine (mark_b _ _ _ (by go_simp)).mono ?_
  rintro _ w' ⟨rfl, rfl⟩
  have hc7 : Below w6.heap.size w6 (w6.alloc (.cells #[.int .u8 0] 5)) := (Below.refl _ _).alloc (Nat.le_refl _) _
  have HX7 := Lib.hid (HX6.out.below hc7)
  have HV7 := Lib.hid (HV6.out.below hc7)
  have HB7 := Lib.hid (HB6.out.trans (hc7.mono HB6.out.size))
  clear hc7
  go_wp2_with fail
  refine (text_b _ (HL.out.below HB7.out)).mono ?_
  rintro _ w8 ⟨rfl, hc⟩
  have HX8 := Lib.hid (HX7.out.below hc)
  have HV8 := Lib.hid (HV7.out.below hc)
  have HB8 := Lib.hid (HB7.out.trans (hc.mono HB7.out.size))
  clear hc
  obtain ⟨x0, x1, x2, x3, _, _⟩ := HX8.out
  obtain ⟨v0, v1, v2, v3, _, _⟩ := HV8.out
  go_wp2_with fail
  refine (eq_two x w.heap.size o 0 cap 2 (by have := HW1.out; omega) _ (bl_two HX8.out.2.2.2.2.1 HX8.out.2.2.2.2.2) (bl_two HV8.out.2.2.2.2.1 HV8.out.2.2.2.2.2)).mono ?_
  rintro _ w9 ⟨rfl, hc⟩
  have HB9 := Lib.hid (HB8.out.trans (hc.mono HB8.out.size))
  clear hc x0 x1 x2 x3 v0 v1 v2 v3
  go_wp2_with fail
  go_ret
  exact ⟨rfl, HB9.out⟩

end Go.Proofs.YtmamepmfbfinlaaGreatDoor
