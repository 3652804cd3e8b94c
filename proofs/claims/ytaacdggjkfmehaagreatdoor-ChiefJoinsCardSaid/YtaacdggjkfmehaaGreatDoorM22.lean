/-
  Contracts of the program, and what they rest on.
-/
import Derived.Test.YtaacdggjkfmehaaGreatDoorM17
import Derived.Test.YtaacdggjkfmehaaGreatDoorM19
import Derived.Test.YtaacdggjkfmehaaGreatDoorM21
import Derived.Test.YtaacdggjkfmehaaGreatDoorM12
namespace Go.Proofs.YtaacdggjkfmehaaGreatDoor
open Go.RowKit Go.Maps Go.Proofs.MapD Go.Proofs.Chest
theorem rtear_p {w : World} {c : Nat} {F : List Nat} {st : St} (h : Rep w c F st) (hL : st.l.length ≤ 1000000) (n : Int) :
    Calls Tryz.prog 15 #[.pointer (some ⟨c, 0, none⟩), .int .i64 n] w fun x w' => x = .returned (.pointer (some ⟨w.heap.size, 0, none⟩)) ∧ Torn w (tear st n) w' := by
  obtain ⟨m, L, hR, hl, rfl⟩ := h
  obtain ⟨room, l⟩ := st
  simp only at hR hl hL
  subst hl
  cases m with
  | none => exact tear_none hR n
  | some b => exact tear_some hR (by unfold ab at hL; rw [List.length_map] at hL; exact hL) n
def Ch (w0 w : World) (c : Nat) (st : St) : Prop := (∃ F, Rep w c F st ∧ ∀ k ∈ F, w0.heap.size ≤ k) ∧ Below w0.heap.size w0 w
theorem Ch.below {w0 w w' : World} {c : Nat} {st : St} (h : Ch w0 w c st) (hb : Below w.heap.size w w') : Ch w0 w' c st := by
  obtain ⟨⟨F, h1, h2⟩, h3⟩ := h
  exact ⟨⟨F, h1.below hb, h2⟩, h3.trans (hb.mono h3.size)⟩
theorem Ch.wf {w0 w : World} {c : Nat} {st : St} (h : Ch w0 w c st) : Wf st := by
  obtain ⟨⟨F, h1, _⟩, _⟩ := h
  exact h1.wf
theorem new_c (room : Int) {w0 w : World} (hb : Below w0.heap.size w0 w) :
    Calls Tryz.prog 7 #[.int .i64 room] w fun e w' => ∃ c, e = .returned (.pointer (some ⟨c, 0, none⟩)) ∧ Ch w0 w' c ⟨(min (max room 0) 1048576).toNat, []⟩ := by
  refine (new_p room w).mono ?_
  rintro e w' ⟨rfl, h1, h2⟩
  exact ⟨_, rfl, ⟨_, h1, by simp; exact hb.size⟩, hb.trans (h2.below hb.size (by simp))⟩
section
variable {w0 w : World} {c : Nat} {st : St}
theorem write_c (h : Ch w0 w c st) (hL : st.l.length ≤ 1000000) (n s : ByteArray) (hn : n.size ≤ 1000000) :
    Calls Tryz.prog 99 #[.pointer (some ⟨c, 0, none⟩), .string n, .string s] w fun x w' => x = .returned (.int .i64 (write st n s).1) ∧ Ch w0 w' c (write st n s).2 := by
  have h0 := h
  obtain ⟨⟨F, h1, h2⟩, h3⟩ := h
  exact (write_p h1 hL n s hn).mono fun x w' ⟨h4, h5⟩ => ⟨h4, by
    obtain ⟨F', h6, h7, h8⟩ := h5
    have := h3.size
    refine ⟨⟨F', h6, fun k hk => ?_⟩, h3.trans (h8.below h3.size h2)⟩
    rcases h7 k hk with h9 | h9
    · exact h2 k h9
    · omega⟩
theorem press_c (h : Ch w0 w c st) (n : ByteArray) (hn : n.size ≤ 1000000) :
    Calls Tryz.prog 100 #[.pointer (some ⟨c, 0, none⟩), .string n] w fun x w' => x = .returned (.int .i64 (press st n).1) ∧ Ch w0 w' c (press st n).2 := by
  obtain ⟨⟨F, h1, h2⟩, h3⟩ := h
  exact (rpress_p h1 n hn).mono fun x w' ⟨h4, h5⟩ => ⟨h4, by
    obtain ⟨F', h6, h7, h8⟩ := h5
    have := h3.size
    refine ⟨⟨F', h6, fun k hk => ?_⟩, h3.trans (h8.below h3.size h2)⟩
    rcases h7 k hk with h9 | h9
    · exact h2 k h9
    · omega⟩
theorem cut_c (h : Ch w0 w c st) (n : ByteArray) (hn : n.size ≤ 1000000) (k : Int) :
    Calls Tryz.prog 50 #[.pointer (some ⟨c, 0, none⟩), .string n, .int .i64 k] w fun x w' => x = .returned (.int .i64 (cut st n k).1) ∧ Ch w0 w' c (cut st n k).2 := by
  obtain ⟨⟨F, h1, h2⟩, h3⟩ := h
  exact (rcut_p h1 n hn k).mono fun x w' ⟨h4, h5⟩ => ⟨h4, by
    obtain ⟨F', h6, h7, h8⟩ := h5
    have := h3.size
    refine ⟨⟨F', h6, fun k hk => ?_⟩, h3.trans (h8.below h3.size h2)⟩
    rcases h7 k hk with h9 | h9
    · exact h2 k h9
    · omega⟩
theorem call_c (h : Ch w0 w c st) (hL : st.l.length ≤ 1000000) (f t : ByteArray) (hf : f.size ≤ 1000000) (ht : t.size ≤ 1000000) :
    Calls Tryz.prog 76 #[.pointer (some ⟨c, 0, none⟩), .string f, .string t] w fun x w' => x = .returned (.int .i64 (call st f t).1) ∧ Ch w0 w' c (call st f t).2 := by
  obtain ⟨⟨F, h1, h2⟩, h3⟩ := h
  exact (rcall_p h1 hL f t hf ht).mono fun x w' ⟨h4, h5⟩ => ⟨h4, by
    obtain ⟨F', h6, h7, h8⟩ := h5
    have := h3.size
    refine ⟨⟨F', h6, fun k hk => ?_⟩, h3.trans (h8.below h3.size h2)⟩
    rcases h7 k hk with h9 | h9
    · exact h2 k h9
    · omega⟩
theorem tear_c (h : Ch w0 w c st) (hL : st.l.length ≤ 1000000) (n : Int) :
    Calls Tryz.prog 15 #[.pointer (some ⟨c, 0, none⟩), .int .i64 n] w fun x w' => ∃ d, x = .returned (.pointer (some ⟨d, 0, none⟩)) ∧ Ch w0 w' c st ∧ Ch w0 w' d (tear st n) := by
  have h0 := h
  obtain ⟨⟨F, h1, h2⟩, h3⟩ := h
  refine (rtear_p h1 hL n).mono ?_
  rintro x w' ⟨rfl, F', h4, h5, h6⟩
  refine ⟨_, rfl, h0.below h6, ⟨F', h4, fun k hk => ?_⟩, h3.trans (h6.mono h3.size)⟩
  exact Nat.le_trans h3.size (h5 k hk)
theorem read_c (h : Ch w0 w c st) (n : ByteArray) (hn : n.size ≤ 1000000) :
    Calls Tryz.prog 47 #[.pointer (some ⟨c, 0, none⟩), .string n] w fun x w' => x = .returned (.tuple #[.string (readS st n).1, .bool (readS st n).2]) ∧ w = w' := by
  obtain ⟨⟨F, h1, h2⟩, h3⟩ := h
  exact rread_p h1 n hn
theorem pressed_c (h : Ch w0 w c st) (n : ByteArray) (hn : n.size ≤ 1000000) :
    Calls Tryz.prog 110 #[.pointer (some ⟨c, 0, none⟩), .string n] w fun x w' => x = .returned (.int .i64 ((pressedS st n : Nat) : Int)) ∧ w = w' := by
  obtain ⟨⟨F, h1, h2⟩, h3⟩ := h
  exact rpressed_p h1 n hn
theorem room_c (h : Ch w0 w c st) :
    Calls Tryz.prog 111 #[.pointer (some ⟨c, 0, none⟩)] w fun x w' => x = .returned (.int .i64 (st.room : Int)) ∧ w = w' := by
  obtain ⟨⟨F, h1, h2⟩, h3⟩ := h
  exact rroom_p h1
end
end Go.Proofs.YtaacdggjkfmehaaGreatDoor
namespace Go.Proofs.YtaacdggjkfmehaaGreatDoor
open Go.RowKit Go.Proofs.Flo Go.Proofs.Cpl
theorem fk_n2 : fk 0 2 = 4611686018427387904 := by decide
theorem fk_n4 : fk 0 4 = 4616189618054758400 := by decide
theorem fk_n7 : fk 0 7 = 4619567317775286272 := by decide
theorem fk_n22 : fk 0 22 = 4626885667169763328 := by decide
theorem fk_n255 : fk 0 255 = 4643176031446892544 := by decide
theorem fk_n65514 : fk 0 65514 = 4679236989180968960 := by decide
theorem fk_n65517 : fk 0 65517 = 4679237401497829376 := by decide
theorem mul_b (w : World) : Calls Tryz.prog 132 #[.complex .f64 4611686018427387904 4613937818241073152, .complex .f64 4616189618054758400 4617315517961601024] w fun e w' => e = .returned (.complex .f64 4679236989180968960 4626885667169763328) ∧ w = w' := by
  have h := mul_gc (2, 3) (4, 5) (by unfold Ok; decide) (by unfold Ok; decide) w
  rw [show gmul (2, 3) (4, 5) = (65514, 22) from by decide] at h
  simp only [fk_n2, fk_three, fk_n4, fk_five, fk_n65514, fk_n22] at h
  exact h
def TX : ByteArray := ⟨#[48, 48, 48, 55, 48, 48, 102, 102]⟩
theorem text_b (w : World) (h : LibAt w) : Calls Tryz.prog 107 #[.complex .f64 4619567317775286272 4643176031446892544] w fun e w' => e = .returned (.string TX) ∧ Below w.heap.size w w' := by
  have h := gtext (7, 255) (by unfold Ok; decide) w h.1
  simp only [fk_n7, fk_n255] at h
  exact h
theorem read_b (w : World) (h : LibAt w) : Calls Tryz.prog 105 #[.string TX] w fun e w' => e = .returned (.tuple #[.complex .f64 4619567317775286272 4643176031446892544, .bool true]) ∧ Below w.heap.size w w' := by
  have h := gread_yes TX (7, 255) ⟨by unfold Ok; decide, rfl⟩ w h.1 h.2.1
  simp only [fk_n7, fk_n255] at h
  exact h
theorem mark_a (w : World) : Calls Tryz.prog 108 #[.slice none 0 0] w fun e w' => e = .returned (.complex .f64 0 4607182418800017408) ∧ w = w' := by
  have h := mark_nil w
  unfold gc at h
  simp only [fk_zero, fk_one] at h
  exact h
theorem mark_b (b cap : Nat) (w : World) (hc : w.cell? ⟨b, 0, none⟩ = some (.int .u8 0)) : Calls Tryz.prog 108 #[.slice (some ⟨b, 0, none⟩) 1 cap] w fun e w' => e = .returned (.complex .f64 4679237401497829376 4613937818241073152) ∧ w = w' := by
  have h := mark_gc b 0 cap [0] (by unfold maxLen; decide) w (fun i hi => by
    have : i = 0 := by simp at hi; exact hi
    subst this
    exact hc)
  rw [show gon (0, 1) [0] = (65517, 3) from by decide] at h
  unfold gc at h
  simp only [fk_n65517, fk_three] at h
  exact h
theorem bl_wf : BL.wf := by unfold BL F.wf; simp [F.wf]
theorem put_b (b cap : Nat) (w : World) (h : LibAt w) (hr : RepF w b 0 BL) : Calls Tryz.prog 88 #[.agg #[.int .i64 3, .int .i64 0, .string ⟨#[]⟩, .slice (some ⟨b, 0, none⟩) 2 cap]] w fun e w' => e = .returned (.string BT) ∧ Below w.heap.size w w' := by
  have h := Put_p 3 0 ⟨#[]⟩ BL (some ⟨b, 0, none⟩) cap w h.2.2.2 (by decide) bl_wf (.inr ⟨b, 0, rfl, hr⟩)
  rw [bl_put] at h
  exact h
theorem get_b1 (w : World) (h : LibAt w) : Calls Tryz.prog 94 #[.string (BT ++ ⟨#[122]⟩)] w fun e w' => Below w.heap.size w w' ∧ ∃ x o cap, e = .returned (.tuple #[.agg #[.int .i64 3, .int .i64 0, .string ⟨#[]⟩, .slice (some ⟨x, o, none⟩) 2 cap], .int .i64 14, .int .i64 0]) ∧ RepA w' (fun b => w.heap.size ≤ b) x o BL := by
  have h := Get_p (BT ++ ⟨#[122]⟩) w (by decide) h
  rw [get_t] at h
  refine h.mono ?_
  rintro e w' ⟨hb, ad, cap, rfl, hg⟩
  rcases hg with h0 | ⟨x, o, he, hg⟩
  · cases h0
  · subst he
    exact ⟨hb, x, o, _, rfl, hg⟩
theorem get_b2 (w : World) (h : LibAt w) : Calls Tryz.prog 94 #[.string (BT.extract 0 4)] w fun e w' => e = .returned (.tuple #[.agg #[.int .i64 0, .int .i64 0, .string ⟨#[]⟩, .slice none 0 0], .int .i64 0, .int .i64 2]) ∧ Below w.heap.size w w' := by
  have h := Get_p (BT.extract 0 4) w (by decide) h
  rw [get_m] at h
  exact h.mono fun _ _ h => ⟨h.2, h.1⟩
theorem get_b3 (w : World) (h : LibAt w) : Calls Tryz.prog 94 #[.string ⟨#[120]⟩] w fun e w' => e = .returned (.tuple #[.agg #[.int .i64 0, .int .i64 0, .string ⟨#[]⟩, .slice none 0 0], .int .i64 0, .int .i64 1]) ∧ Below w.heap.size w w' := by
  have h := Get_p ⟨#[120]⟩ w (by decide) h
  rw [get_x] at h
  exact h.mono fun _ _ h => ⟨h.2, h.1⟩
theorem bt_size : BT.size = 14 := rfl
theorem bt_list : BT.toList = [49, 48, 58, 50, 58, 45, 53, 35, 50, 58, 97, 98, 44, 93] := by rw [ByteArray.toList_eq]; rfl
theorem tx_list : TX.toList = [48, 48, 48, 55, 48, 48, 102, 102] := by rw [ByteArray.toList_eq]; rfl
def VAt (b y oy cy : Nat) (w : World) : Prop :=
  w.cell? ⟨b, 0, none⟩ = some (.int .i64 3) ∧ w.cell? ⟨b, 1, none⟩ = some (.int .i64 0) ∧ w.cell? ⟨b, 2, none⟩ = some (.string ⟨#[]⟩) ∧ w.cell? ⟨b, 3, none⟩ = some (.slice (some ⟨y, oy, none⟩) 2 cy) ∧ RepF w y oy BL ∧ (∃ cur t, w.heap[y]? = some (.cells cur t (0, 0)))
theorem heap_lt {w : World} {b : Nat} {o : Obj} (h : w.heap[b]? = some o) : b < w.heap.size := by
  rcases Nat.lt_or_ge b w.heap.size with h1 | h1
  · exact h1
  · rw [Array.getElem?_eq_none h1] at h
    cases h
theorem VAt.below {b y oy cy : Nat} {w w' : World} (h : VAt b y oy cy w) (hb : Below w.heap.size w w') : VAt b y oy cy w' := by
  obtain ⟨h0, h1, h2, h3, h4, cur, t, h5⟩ := h
  exact ⟨cell_kept hb (Nat.le_refl _) h0, cell_kept hb (Nat.le_refl _) h1, cell_kept hb (Nat.le_refl _) h2, cell_kept hb (Nat.le_refl _) h3, RepF.kept hb (Nat.le_refl _) _ _ _ h4, cur, t, by rw [hb.block _ (heap_lt h5)]; exact h5⟩
theorem bl_two {w : World} {b o : Nat} (h : RepF w b o BL) (hc : ∃ cur t, w.heap[b]? = some (.cells cur t (0, 0))) : Two w b o := by
  obtain ⟨h0, h1, h2, ⟨a, c, h3, _⟩, h4, h5, h6, ⟨a', c', h7, _⟩, _⟩ := h
  exact ⟨h0, h1, h2, ⟨a, c, h3⟩, h4, h5, h6, ⟨a', c', h7⟩, hc⟩
theorem v_start (w : World) : VAt (w.heap.size + 1) w.heap.size 0 2 ((w.alloc (.cells #[.int .i64 1, .int .i64 (-5), .string ⟨#[]⟩, .slice none 0 0, .int .i64 2, .int .i64 0, .string ⟨#[97, 98]⟩, .slice none 0 0] 121)).alloc (.cells #[.int .i64 3, .int .i64 0, .string ⟨#[]⟩, .slice (some ⟨w.heap.size, 0, none⟩) 2 2] 121)) := by
  refine ⟨?_, ?_, ?_, ?_, ?_, ?_⟩
  · go_simp
  · go_simp
  · go_simp
  · go_simp
  · unfold BL RepF RepF RepF
    refine ⟨?_, ?_, ?_, ⟨none, 0, ?_, .inl rfl⟩, ?_, ?_, ?_, ⟨none, 0, ?_, .inl rfl⟩, trivial⟩ <;> ((try simp only [F.len]); go_simp)
  · exact ⟨#[.int .i64 1, .int .i64 (-5), .string ⟨#[]⟩, .slice none 0 0, .int .i64 2, .int .i64 0, .string ⟨#[97, 98]⟩, .slice none 0 0], 121, ((Below.alloc (Below.refl (w.alloc (.cells #[.int .i64 1, .int .i64 (-5), .string ⟨#[]⟩, .slice none 0 0, .int .i64 2, .int .i64 0, .string ⟨#[97, 98]⟩, .slice none 0 0] 121)).heap.size _) (Nat.le_refl _) _).block _ (by simp)).trans (heap_alloc_new w _)⟩
theorem v_made {w : World} {x o cap : Nat} {A : Nat → Prop} (hx : RepA w A x o BL) : VAt w.heap.size x o cap (w.alloc (.cells #[.int .i64 3, .int .i64 0, .string ⟨#[]⟩, .slice (some ⟨x, o, none⟩) 2 cap] 121)) := by
  have hb : Below w.heap.size w (w.alloc (.cells #[.int .i64 3, .int .i64 0, .string ⟨#[]⟩, .slice (some ⟨x, o, none⟩) 2 cap] 121)) := (Below.refl _ _).alloc (Nat.le_refl _) _
  obtain ⟨cur, t, hc⟩ := hx.1.2
  refine ⟨?_, ?_, ?_, ?_, RepF.kept hb (Nat.le_refl _) _ _ _ hx.repF, cur, t, by rw [hb.block _ (heap_lt hc)]; exact hc⟩
  · go_simp
  · go_simp
  · go_simp
  · go_simp
set_option maxRecDepth 100000 in
set_option maxHeartbeats 4000000 in
theorem begun_true : BegunTrue := by
  intro w hL
  have HL := Lib.hid hL
  have q1 := bt_size
  have q2 := bt_list
  have q3 := tx_list
  clear hL
  go_enter Tryz.func122, Tryz.ntmps122
  go_wp2_with fail
  refine (mul_b _).mono ?_
  rintro _ w' ⟨rfl, rfl⟩
  go_wp2_with fail
  have hb1 : Below w.heap.size w ((w.alloc (.cells #[.int .i64 1, .int .i64 (-5), .string ⟨#[]⟩, .slice none 0 0, .int .i64 2, .int .i64 0, .string ⟨#[97, 98]⟩, .slice none 0 0] 121)).alloc (.cells #[.int .i64 3, .int .i64 0, .string ⟨#[]⟩, .slice (some ⟨w.heap.size, 0, none⟩) 2 2] 121)) := ((Below.refl _ _).alloc (Nat.le_refl _) _).alloc (by simp) _
  have hv1 := v_start w
  refine (put_b w.heap.size 2 _ (HL.out.below hb1) hv1.2.2.2.2.1).mono ?_
  rintro _ w1 ⟨rfl, hc⟩
  have HV1 := Lib.hid (hv1.below hc)
  have HB1 := Lib.hid (hb1.trans (hc.mono hb1.size))
  clear hb1 hv1 hc
  go_wp2_with fail
  refine (get_b1 _ (HL.out.below HB1.out)).mono ?_
  rintro _ w2 ⟨hc, x, o, cap, rfl, hx⟩
  have hxge : w1.heap.size ≤ x := hx.1.1
  have hb2 : Below w.heap.size w (w2.alloc (.cells #[.int .i64 3, .int .i64 0, .string ⟨#[]⟩, .slice (some ⟨x, o, none⟩) 2 cap] 121)) := (HB1.out.trans (hc.mono HB1.out.size)).alloc (Nat.le_trans HB1.out.size hc.size) _
  have HX2 := Lib.hid (v_made (cap := cap) hx)
  have HV2 : Hid (VAt (w.heap.size + 1) w.heap.size 0 2 (w2.alloc (.cells #[.int .i64 3, .int .i64 0, .string ⟨#[]⟩, .slice (some ⟨x, o, none⟩) 2 cap] 121))) := Lib.hid (HV1.out.below (hc.alloc hc.size _))
  have HB2 := Lib.hid hb2
  have HW1 : Hid (w.heap.size < w1.heap.size) := Lib.hid (by have := heap_lt HV1.out.2.2.2.2.2.choose_spec.choose_spec; exact this)
  clear hc hx hb2
  go_wp2_with fail
  refine (get_b2 _ (HL.out.below HB2.out)).mono ?_
  rintro _ w3 ⟨rfl, hc⟩
  have hc3 := hc.alloc hc.size (.cells #[.int .i64 0, .int .i64 0, .string ⟨#[]⟩, .slice none 0 0] 121)
  have HX3 := Lib.hid (HX2.out.below hc3)
  have HV3 := Lib.hid (HV2.out.below hc3)
  have HB3 := Lib.hid (HB2.out.trans (hc3.mono HB2.out.size))
  clear hc hc3
  go_wp2_with fail
  refine (get_b3 _ (HL.out.below HB3.out)).mono ?_
  rintro _ w4 ⟨rfl, hc⟩
  have hc4 := hc.alloc hc.size (.cells #[.int .i64 0, .int .i64 0, .string ⟨#[]⟩, .slice none 0 0] 121)
  have HX4 := Lib.hid (HX3.out.below hc4)
  have HV4 := Lib.hid (HV3.out.below hc4)
  have HB4 := Lib.hid (HB3.out.trans (hc4.mono HB3.out.size))
  clear hc hc4
  go_wp2_with fail
  refine (text_b _ (HL.out.below HB4.out)).mono ?_
  rintro _ w5 ⟨rfl, hc⟩
  have HX5 := Lib.hid (HX4.out.below hc)
  have HV5 := Lib.hid (HV4.out.below hc)
  have HB5 := Lib.hid (HB4.out.trans (hc.mono HB4.out.size))
  clear hc
  go_wp2_with fail
  refine (read_b _ (HL.out.below HB5.out)).mono ?_
  rintro _ w6 ⟨rfl, hc⟩
  have HX6 := Lib.hid (HX5.out.below hc)
  have HV6 := Lib.hid (HV5.out.below hc)
  have HB6 := Lib.hid (HB5.out.trans (hc.mono HB5.out.size))
  clear hc
  have s1 : (FloatKind.f64.format.order 4679236989180968960 4679236989180968960 == some .eq) = true := by decide
  have s2 : (FloatKind.f64.format.order 4626885667169763328 4626885667169763328 == some .eq) = true := by decide
  have s3 : (FloatKind.f64.format.order 0 0 == some .eq) = true := by decide
  have s4 : (FloatKind.f64.format.order 4607182418800017408 4607182418800017408 == some .eq) = true := by decide
  have s5 : (FloatKind.f64.format.order 4679237401497829376 4679237401497829376 == some .eq) = true := by decide
  have s6 : (FloatKind.f64.format.order 4613937818241073152 4613937818241073152 == some .eq) = true := by decide
  have s7 : (FloatKind.f64.format.order 4619567317775286272 4619567317775286272 == some .eq) = true := by decide
  have s8 : (FloatKind.f64.format.order 4643176031446892544 4643176031446892544 == some .eq) = true := by decide
  go_wp2_with fail
  refine (mark_a _).mono ?_
  rintro _ w' ⟨rfl, rfl⟩
  go_wp2_with fail
  refine (mark_b _ _ _ (by go_simp)).mono ?_
  rintro _ w' ⟨rfl, rfl⟩
  have hc7 : Below w6.heap.size w6 (w6.alloc (.cells #[.int .u8 0] 5)) := (Below.refl _ _).alloc (Nat.le_refl _) _
  have HX7 := Lib.hid (HX6.out.below hc7)
  have HV7 := Lib.hid (HV6.out.below hc7)
  have HB7 := Lib.hid (HB6.out.trans (hc7.mono HB6.out.size))
  clear hc7
  go_wp2_with fail
  refine (text_b _ (HL.out.below HB7.out)).mono ?_
  rintro _ w8 ⟨rfl, hc⟩
  have HX8 := Lib.hid (HX7.out.below hc)
  have HV8 := Lib.hid (HV7.out.below hc)
  have HB8 := Lib.hid (HB7.out.trans (hc.mono HB7.out.size))
  clear hc
  obtain ⟨x0, x1, x2, x3, _, _⟩ := HX8.out
  obtain ⟨v0, v1, v2, v3, _, _⟩ := HV8.out
  go_wp2_with fail
  refine (eq_two x w.heap.size o 0 cap 2 (by have := HW1.out; omega) _ (bl_two HX8.out.2.2.2.2.1 HX8.out.2.2.2.2.2) (bl_two HV8.out.2.2.2.2.1 HV8.out.2.2.2.2.2)).mono ?_
  rintro _ w9 ⟨rfl, hc⟩
  have HB9 := Lib.hid (HB8.out.trans (hc.mono HB8.out.size))
  clear hc x0 x1 x2 x3 v0 v1 v2 v3
  go_wp2_with fail
  go_ret
  exact ⟨rfl, HB9.out⟩
end Go.Proofs.YtaacdggjkfmehaaGreatDoor
namespace Go.Proofs.YtaacdggjkfmehaaGreatDoor
open Go.RowKit Go.Maps Go.Proofs.MapD Go.Proofs.Chest
def BegunTrue3 : Prop := ∀ w, LibAt w → Calls Tryz.prog 96 #[] w fun e w' => e = .returned (.bool true) ∧ Below w.heap.size w w'
theorem begun1_p (w : World) (h : LibAt w) : Calls Tryz.prog 109 #[] w fun e w' => e = .returned (.bool true) ∧ Below w.heap.size w w' := by
  have HB := Lib.hid (begun_true w h)
  clear h
  go_enter Tryz.func109, Tryz.ntmps109
  go_wp2_with (go_at_call 122; refine HB.out.mono ?_; rintro _ w1 ⟨rfl, hb⟩)
  go_ret
  exact ⟨rfl, hb⟩
def nA : ByteArray := ⟨#[65]⟩
def nB : ByteArray := ⟨#[66]⟩
def sXYZ : ByteArray := ⟨#[120, 121, 122]⟩
def sXY : ByteArray := ⟨#[120, 121]⟩
def b1 : St := ⟨47, [(nA, ⟨sXYZ, 0, false⟩)]⟩
def b2 : St := ⟨47, [(nA, ⟨sXYZ, 3, true⟩)]⟩
def b3 : St := ⟨48, [(nA, ⟨sXY, 2, true⟩)]⟩
def b4 : St := ⟨48, [(nB, ⟨sXY, 2, true⟩)]⟩
theorem x_new : (⟨(min (max (50 : Int) 0) 1048576).toNat, []⟩ : St) = ⟨50, []⟩ := by kernel_rfl
theorem x_w1 : write ⟨50, []⟩ ⟨#[65]⟩ ⟨#[120, 121, 122]⟩ = (0, b1) := by kernel_rfl
theorem x_w2 : write b1 ⟨#[97]⟩ ⟨#[]⟩ = (1, b1) := by kernel_rfl
theorem x_t2 : readS (tear b1 2) ⟨#[65]⟩ = (⟨#[120, 121]⟩, true) := by kernel_rfl
theorem x_t0 : readS (tear b1 0) ⟨#[65]⟩ = (⟨#[]⟩, false) := by kernel_rfl
theorem x_p : press b1 ⟨#[65]⟩ = (0, b2) := by kernel_rfl
theorem x_c : cut b2 ⟨#[65]⟩ 2 = (0, b3) := by kernel_rfl
theorem x_k : call b3 ⟨#[65]⟩ ⟨#[66]⟩ = (0, b4) := by kernel_rfl
theorem x_t1 : readS (tear b4 (-1)) ⟨#[66]⟩ = (⟨#[120, 121]⟩, true) := by kernel_rfl
theorem x_pr : pressedS b4 ⟨#[66]⟩ = 2 := by kernel_rfl
def zeros (n : Nat) : ByteArray := ⟨(List.replicate n (0 : UInt8)).toArray⟩
theorem zeros_size (n : Nat) : (zeros n).size = n := by
  show (List.replicate n (0 : UInt8)).toArray.size = n
  simp
theorem x_w3 : write b4 ⟨#[67]⟩ (zeros 49) = (5, b4) := by kernel_rfl
theorem mk_zeros (n : Nat) (hn : n ≤ 100000) (w : World) : (Instr.makeSlice 85 (.int .i64 (n : Int)) (.int .i64 (n : Int))).run Tryz.prog w = .ok (.slice (some ⟨w.heap.size, 0, none⟩) n n) (w.alloc (.cells (madeCells #[.int .u8 0] n) 5)) := by
  obtain ⟨i0, hi, hz0, hz1, hz2⟩ := info_parts infoRU8
  have := run_makeSlice (P := Tryz.prog) (w := w) 85 5 i0 (.int .u8 0) Tryz.underlying85 hi hz0 .i64 .i64 (n : Int) (n : Int) (by omega) (Int.le_refl _) (by rw [hz1]; omega) (by rw [hz2]; omega) (by omega)
  rw [hz1, Nat.mul_one] at this
  simpa [Value.cells] using this
theorem zeros_text (n : Nat) (hn : n ≤ 100000) (w : World) : Text (w.alloc (.cells (madeCells #[.int .u8 0] n) 5)) (.slice (some ⟨w.heap.size, 0, none⟩) n n) (zeros n) := by
  have hs := zeros_size n
  refine ⟨by rw [Lib.strCells_length, Nat.mul_one], .inr ⟨w.heap.size, n, madeCells #[.int .u8 0] n, by rw [hs], Nat.zero_le _, heap_alloc_new w _, by omega, by unfold maxLen; omega, by rw [size_madeCells, Nat.mul_one], ?_⟩⟩
  rw [toList_madeCells_one, hs, Nat.mul_one, List.take_of_length_le (by simp)]
  unfold Lib.strCells zeros
  simp
theorem zeros_conv (n : Nat) (hn : n ≤ 100000) (w : World) : (convert 85 9 (.slice (some ⟨w.heap.size, 0, none⟩) n n)).run Tryz.prog (w.alloc (.cells (madeCells #[.int .u8 0] n) 5)) = .ok (.string (zeros n)) (w.alloc (.cells (madeCells #[.int .u8 0] n) 5)) := by
  have := text_conv (zeros_text n hn w)
  exact this
theorem xy_list : (⟨#[120, 121]⟩ : ByteArray).toList = [120, 121] := by rw [ByteArray.toList_eq]
set_option maxRecDepth 100000 in
set_option maxHeartbeats 4000000 in
theorem begun3_true : BegunTrue3 := by
  intro w hL
  have HL := Lib.hid hL
  have q1 := xy_list
  clear hL
  go_enter Tryz.func96, Tryz.ntmps96
  go_wp2_with fail
  refine (new_c 50 (Below.refl _ w)).mono ?_
  rintro _ w1 ⟨c, rfl, h1⟩
  rw [x_new] at h1
  have H1 := Lib.hid h1
  clear h1
  go_wp2_with fail
  refine (write_c H1.out (by decide) ⟨#[65]⟩ ⟨#[120, 121, 122]⟩ (by decide)).mono ?_
  rintro _ w2 ⟨rfl, h2⟩
  rw [x_w1] at h2 ⊢
  have H2 := Lib.hid h2
  clear h2
  go_wp2_with fail
  refine (write_c H2.out (by decide) ⟨#[97]⟩ ⟨#[]⟩ (by decide)).mono ?_
  rintro _ w3 ⟨rfl, h3⟩
  rw [x_w2] at h3 ⊢
  have H3 := Lib.hid h3
  clear h3
  go_wp2_with fail
  refine (tear_c H3.out (by decide) 2).mono ?_
  rintro _ w4 ⟨d1, rfl, h4, h4'⟩
  have H4 := Lib.hid h4
  have H4' := Lib.hid h4'
  clear h4 h4'
  go_wp2_with fail
  refine (read_c H4'.out ⟨#[65]⟩ (by decide)).mono ?_
  rintro _ _ ⟨rfl, rfl⟩
  rw [x_t2]
  go_wp2_with fail
  refine (tear_c H4.out (by decide) 0).mono ?_
  rintro _ w5 ⟨d2, rfl, h5, h5'⟩
  have H5 := Lib.hid h5
  have H5' := Lib.hid h5'
  clear h5 h5'
  go_wp2_with fail
  refine (read_c H5'.out ⟨#[65]⟩ (by decide)).mono ?_
  rintro _ _ ⟨rfl, rfl⟩
  rw [x_t0]
  go_wp2_with fail
  refine (press_c H5.out ⟨#[65]⟩ (by decide)).mono ?_
  rintro _ w6 ⟨rfl, h6⟩
  rw [x_p] at h6 ⊢
  have H6 := Lib.hid h6
  clear h6
  go_wp2_with fail
  refine (cut_c H6.out ⟨#[65]⟩ (by decide) 2).mono ?_
  rintro _ w7 ⟨rfl, h7⟩
  rw [x_c] at h7 ⊢
  have H7 := Lib.hid h7
  clear h7
  go_wp2_with fail
  refine (call_c H7.out (by decide) ⟨#[65]⟩ ⟨#[66]⟩ (by decide) (by decide)).mono ?_
  rintro _ w8 ⟨rfl, h8⟩
  rw [x_k] at h8 ⊢
  have H8 := Lib.hid h8
  clear h8
  go_wp2_with fail
  refine (tear_c H8.out (by decide) (-1)).mono ?_
  rintro _ w9 ⟨d3, rfl, h9, h9'⟩
  have H9 := Lib.hid h9
  have H9' := Lib.hid h9'
  clear h9 h9'
  go_wp2_with fail
  refine (read_c H9'.out ⟨#[66]⟩ (by decide)).mono ?_
  rintro _ _ ⟨rfl, rfl⟩
  rw [x_t1]
  go_wp2_with fail
  refine (begun1_p w9 (HL.out.below H9.out.2)).mono ?_
  rintro _ w10 ⟨rfl, hb⟩
  have H10 := Lib.hid (H9.out.below hb)
  clear hb
  go_wp2_with fail
  refine (pressed_c H10.out ⟨#[66]⟩ (by decide)).mono ?_
  rintro _ _ ⟨rfl, rfl⟩
  rw [x_pr]
  go_wp2_with fail
  refine (room_c H10.out).mono ?_
  rintro _ _ ⟨rfl, rfl⟩
  have hmk : ∀ w : World, (Instr.makeSlice 85 (.int .i64 49) (.int .i64 49)).run Tryz.prog w = .ok (.slice (some ⟨w.heap.size, 0, none⟩) 49 49) (w.alloc (.cells (madeCells #[.int .u8 0] 49) 5)) := fun w => mk_zeros 49 (by decide) w
  have hcv := zeros_conv 49 (by decide) w10
  go_wp2_with fail
  have hb11 := (Below.refl w10.heap.size w10).alloc (Nat.le_refl _) (.cells (madeCells #[.int .u8 0] 49) 5)
  refine (write_c (H10.out.below hb11) (by decide) ⟨#[67]⟩ (zeros 49) (by decide)).mono ?_
  rintro _ w11 ⟨rfl, h11⟩
  rw [x_w3] at h11 ⊢
  have H11 := Lib.hid h11
  clear h11 hb11
  go_wp2_with fail
  go_ret
  exact ⟨rfl, H11.out.2⟩
end Go.Proofs.YtaacdggjkfmehaaGreatDoor
namespace Go.Proofs.YtaacdggjkfmehaaGreatDoor
open Go.RowKit Go.Maps Go.Proofs.MapD Go.Proofs.Chest
section
variable {room : Nat} {N : ByteArray} {x : Rl}
theorem one_get : Chest.get [(N, x)] N = some x := by simp [Chest.get]
theorem one_set (y : Rl) : Chest.set [(N, x)] N y = [(N, y)] := by simp [Chest.set]
theorem one_write0 (hN : okName N = true) (s : ByteArray) (hs : s.size ≤ room) : write ⟨room, []⟩ N s = (0, ⟨room - s.size, [(N, ⟨s, 0, false⟩)]⟩) := by
  unfold write
  rw [if_neg (by rw [hN]; decide), if_neg (by simpa using hs)]
  rfl
theorem one_write (hN : okName N = true) (s : ByteArray) (hs : s.size ≤ room) : write ⟨room, [(N, x)]⟩ N s = (0, ⟨room - s.size, [(N, ⟨x.t ++ s, x.p, x.s⟩)]⟩) := by
  unfold write
  rw [if_neg (by rw [hN]; decide), if_neg (by simpa using hs)]
  simp only [one_get, one_set]
theorem one_press : press ⟨room, [(N, x)]⟩ N = (0, ⟨room, [(N, ⟨x.t, x.t.size, true⟩)]⟩) := by
  unfold press
  simp only [one_get, one_set]
theorem one_cut (k : Nat) (hk : k ≤ x.t.size) : cut ⟨room, [(N, x)]⟩ N (k : Int) = (0, ⟨room + (x.t.size - k), [(N, ⟨x.t.extract 0 k, min x.p k, true⟩)]⟩) := by
  unfold cut
  simp only [one_get, one_set]
  rw [if_neg (by omega)]
  rfl
end
end Go.Proofs.YtaacdggjkfmehaaGreatDoor
