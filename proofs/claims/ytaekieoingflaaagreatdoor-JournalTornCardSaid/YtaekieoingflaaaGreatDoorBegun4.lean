/-
  The values with which the laws of journal begin are right.
-/
import Derived.Test.YtaekieoingflaaaGreatDoorJrF
import Derived.Test.YtaekieoingflaaaGreatDoorBegun3
namespace Go.Proofs.YtaekieoingflaaaGreatDoor
open Go.RowKit Go.Maps Go.Proofs.MapD Go.Proofs.Chest

/-- That the values with which every law of journal begins are right. -/
def BegunTrue4 : Prop := ∀ w, LibAt w → Calls Tryz.prog 14 #[] w fun e w' => e = .returned (.bool true) ∧ Below w.heap.size w w'

theorem begun3_p (w : World) (h : LibAt w) : Calls Tryz.prog 41 #[] w fun e w' => e = .returned (.bool true) ∧ Below w.heap.size w w' := by
  have HB := Lib.hid (begun3_true w h)
  clear h
  go_enter Tryz.func41, Tryz.ntmps41
  go_wp2_with (go_at_call 7; refine HB.out.mono ?_; rintro _ w1 ⟨rfl, hb⟩)
  go_ret
  exact ⟨rfl, hb⟩

theorem lit_one (w : World) (s : ByteArray) (ty : TypeId) : Reads (w.alloc (.cells #[.string s] ty)) (.slice (some ⟨w.heap.size, 0, none⟩) 1 1) [s] := by
  refine ⟨_, 1, rfl, fun _ => ⟨w.heap.size, 0, rfl, Nat.le_refl _, fun j x hj => ?_⟩⟩
  match j, hj with
  | 0, hj =>
    obtain rfl : s = x := by simpa using hj
    go_simp

theorem extract_front (a b : ByteArray) (k : Nat) : (a ++ b).extract 0 (a.size + k) = a ++ b.extract 0 k := by
  apply ByteArray.ext
  apply Array.ext'
  rw [Lib.extract_data, append_toList, append_toList, Lib.extract_data]
  simp only [List.drop_zero, Nat.sub_zero]
  have h1 : a.data.toList.length = a.size := rfl
  rw [List.take_append, List.take_of_length_le (by omega), h1, Nat.add_sub_cancel_left]

def bE : ByteArray := ⟨#[]⟩
def bOne : ByteArray := ⟨#[111, 110, 101]⟩
def bTwo : ByteArray := ⟨#[116, 119, 111]⟩
def bState : ByteArray := ⟨#[115, 116, 97, 116, 101]⟩
def bAb : ByteArray := ⟨#[97, 98]⟩

theorem small_leaf {s : ByteArray} {n : Nat} (h : s.size = n) (hn : n < 10) : (leafS s).size = 11 + n := by
  rw [leafS_size (by omega), h, Lib.nDigits_small hn]

theorem z_E : (leafS bE).size = 11 := small_leaf (n := 0) rfl (by decide)
theorem z_one : (leafS bOne).size = 14 := small_leaf (n := 3) rfl (by decide)
theorem z_two : (leafS bTwo).size = 14 := small_leaf (n := 3) rfl (by decide)
theorem z_state : (leafS bState).size = 16 := small_leaf (n := 5) rfl (by decide)
theorem z_ab : (leafS bAb).size = 13 := small_leaf (n := 2) rfl (by decide)

def tA : ByteArray := leavesS [bE, bOne]
def tB : ByteArray := tA ++ leafS bTwo

theorem z_A : tA.size = 25 := by
  show (leafS bE ++ (leafS bOne ++ ⟨#[]⟩)).size = 25
  rw [ByteArray.size_append, ByteArray.size_append, z_E, z_one]
  rfl

theorem z_B : tB.size = 39 := by
  show (tA ++ leafS bTwo).size = 39
  rw [ByteArray.size_append, z_A, z_two]

theorem t_A : leafS bE ++ leafS bOne = tA := by
  show _ = leafS bE ++ (leafS bOne ++ ⟨#[]⟩)
  rw [append_none]

theorem b_open : openS ⟨10000, []⟩ = (0, one 9989 (leafS bE) 11 true, ⟨bE, [], 11, false⟩) := open_none 10000 (by decide)

theorem b_add1 : addS (one 9989 (leafS bE) 11 true) ⟨bE, [], 11, false⟩ bOne true = (0, one 9975 tA 25 true, ⟨bE, [bOne], 25, false⟩) := by
  rw [add_one 9989 (leafS bE) 11 true bE [] 11 bOne (by decide) (by rw [z_one]; decide) true, z_one, t_A, z_A]
  rfl

theorem b_add2 : addS (one 9975 tA 25 true) ⟨bE, [bOne], 25, false⟩ bTwo false = (0, one 9961 tB 25 true, ⟨bE, [bOne, bTwo], 39, false⟩) := by
  rw [add_one 9975 tA 25 true bE [bOne] 25 bTwo (by decide) (by rw [z_two]; decide) false, z_two]
  rfl

theorem b_small : ∀ x ∈ [bE, bOne], x.size ≤ 400000 := by
  intro x hx
  simp only [List.mem_cons, List.not_mem_nil, or_false] at hx
  rcases hx with rfl | rfl <;> decide

theorem b_front (k : Nat) (hk : k < 14) (room p : Nat) : ∃ st', openS (one room (tB.extract 0 (25 + k)) p true) = (0, st', ⟨bE, [bOne], 25, false⟩) := by
  have e1 : tB.extract 0 (25 + k) = leavesS [bE, bOne] ++ (leafS bTwo).extract 0 k := by
    have := extract_front tA (leafS bTwo) k
    rw [z_A] at this
    exact this
  rw [e1, open_one room p true bE [bOne] _ b_small (.inr (by rw [turn_front bTwo (by decide) k (by rw [z_two]; exact hk)]))]
  exact ⟨_, by rw [show (leavesS [bE, bOne]).size = 25 from z_A]⟩

theorem b_t0 : ∃ st', openS (tear (one 9961 tB 25 true) 0) = (0, st', ⟨bE, [bOne], 25, false⟩) := by
  rw [tear_one]
  have e : stays ⟨tB, 25, true⟩ 0 = 25 + 0 := by
    unfold stays
    simp only [z_B]
    rfl
  rw [e]
  exact b_front 0 (by decide) _ _

theorem b_t5 : ∃ st', openS (tear (one 9961 tB 25 true) 5) = (0, st', ⟨bE, [bOne], 25, false⟩) := by
  rw [tear_one]
  have e : stays ⟨tB, 25, true⟩ 5 = 25 + 5 := by
    unfold stays
    simp only [z_B]
    rfl
  rw [e]
  exact b_front 5 (by decide) _ _

theorem b_lay : layS (one 9961 tB 25 true) ⟨bE, [bOne, bTwo], 39, false⟩ bState = (0, one 9984 (leafS bState) 16 true, ⟨bState, [], 16, false⟩) := by
  rw [lay_one 9961 tB 25 true bE [bOne, bTwo] 39 bState (by decide) (by rw [z_state]; decide), z_state, z_B]

theorem b_t3 : ∃ st', openS (tear (one 9984 (leafS bState) 16 true) 0) = (0, st', ⟨bState, [], 16, false⟩) := by
  rw [tear_one]
  have e : stays ⟨leafS bState, 16, true⟩ 0 = (leafS bState).size := by
    unfold stays
    simp only [z_state]
    rfl
  have e2 : leafS bState = leavesS [bState] ++ ⟨#[]⟩ := by rw [leaves_one, append_none]
  rw [e, extract_all]
  conv => enter [1, st', 1, 1]; rw [e2]
  rw [open_one _ _ true bState [] ⟨#[]⟩ (by intro x hx; simp at hx; subst hx; decide) (.inl rfl)]
  exact ⟨_, by rw [leaves_one, z_state]⟩

theorem b_turn : turnS (leafS bAb ++ ⟨#[122]⟩) = (⟨#[97, 98]⟩, 13, 0) := by
  show _ = (bAb, 13, 0)
  rw [turn_leaf bAb ⟨#[122]⟩ (by decide), z_ab]

theorem y_new : (⟨(min (max (10000 : Int) 0) 1048576).toNat, []⟩ : St) = ⟨10000, []⟩ := by kernel_rfl

set_option maxRecDepth 100000 in
set_option maxHeartbeats 8000000 in
theorem begun4_true : BegunTrue4 := by
  intro w hL
  have HL := Lib.hid hL
  clear hL
  go_enter Tryz.func14, Tryz.ntmps14
  go_wp2_with fail
  refine (s_new 10000 (Sp.start w)).mono ?_
  rintro _ w1 ⟨c, rfl, h1⟩
  rw [y_new] at h1
  have H1 := Lib.hid h1
  clear h1
  go_wp2_with fail
  refine (s_open_ok H1.out HL.out (by decide) b_open).mono ?_
  rintro _ w2 ⟨j, rfl, h2⟩
  have H2 := Lib.hid h2
  clear h2
  go_wp2_with fail
  refine (s_add H2.out HL.out (by decide) (by decide) (by decide) bOne true).mono ?_
  rintro _ w3 ⟨rfl, h3⟩
  rw [b_add1] at h3 ⊢
  have H3 := Lib.hid h3
  clear h3
  go_wp2_with fail
  refine (s_add H3.out HL.out (by decide) (by decide) (by decide) bTwo false).mono ?_
  rintro _ w4 ⟨rfl, h4⟩
  rw [b_add2] at h4 ⊢
  have H4 := Lib.hid h4
  clear h4
  go_wp2_with fail
  refine (s_jtear H4.out (by decide) 0).mono ?_
  rintro _ w5 ⟨d1, rfl, h5⟩
  have H5 := Lib.hid h5
  clear h5
  go_wp2_with fail
  obtain ⟨st5, e5⟩ := b_t0
  refine (s_open_ok H5.out HL.out (Nat.le_trans (len_tear _ _) (by decide)) e5).mono ?_
  rintro _ w6 ⟨k1, rfl, h6⟩
  have H6 := Lib.hid h6.swap
  clear h6
  go_wp2_with fail
  refine (s_jtear H6.out (by decide) 5).mono ?_
  rintro _ w7 ⟨d2, rfl, h7⟩
  have H7 := Lib.hid h7
  clear h7
  go_wp2_with fail
  obtain ⟨st7, e7⟩ := b_t5
  refine (s_open_ok H7.out HL.out (Nat.le_trans (len_tear _ _) (by decide)) e7).mono ?_
  rintro _ w8 ⟨k2, rfl, h8⟩
  have H8 := Lib.hid h8.swap
  clear h8
  go_wp2_with fail
  refine (s_lay H8.out HL.out (by decide) bState).mono ?_
  rintro _ w9 ⟨rfl, h9⟩
  rw [b_lay] at h9 ⊢
  have H9 := Lib.hid h9
  clear h9
  go_wp2_with fail
  refine (s_jtear H9.out (by decide) 0).mono ?_
  rintro _ w10 ⟨d3, rfl, h10⟩
  have H10 := Lib.hid h10
  clear h10
  go_wp2_with fail
  obtain ⟨st10, e10⟩ := b_t3
  refine (s_open_ok H10.out HL.out (Nat.le_trans (len_tear _ _) (by decide)) e10).mono ?_
  rintro _ w11 ⟨k3, rfl, h11⟩
  have H11 := Lib.hid h11
  clear h11
  go_wp2_with fail
  have J1 := jleaf_p bAb w11 (HL.out.below H11.out.bl)
  have JT := fun w12 (h12 : LibAt w12) => jturn_p (leafS bAb ++ ⟨#[122]⟩) (by
    have h1 : (⟨#[122]⟩ : ByteArray).size = 1 := rfl
    rw [ByteArray.size_append, z_ab, h1]
    omega) w12 h12
  rw [b_turn] at JT
  have hLz := z_ab
  generalize leafS bAb = LA at *
  have HJ1 := Lib.hid J1
  have HJT := Lib.hid JT
  clear J1 JT
  refine HJ1.out.mono ?_
  rintro _ w12 ⟨rfl, hb12⟩
  have H12 := Lib.hid (H11.out.below hb12)
  clear hb12
  go_wp2_with fail
  refine (HJT.out w12 (HL.out.below H12.out.bl)).mono ?_
  rintro _ w13 ⟨rfl, hb13⟩
  have H13 := Lib.hid (H12.out.below hb13)
  clear hb13
  go_wp2_with fail
  refine (begun3_p w13 (HL.out.below H13.out.bl)).mono ?_
  rintro _ w14 ⟨rfl, hb14⟩
  have H14 := Lib.hid ((H13.out.below hb14).perm (List.perm_append_comm (l₁ := [_, _, _]) (l₂ := [_])))
  clear hb14
  go_wp2_with fail
  refine (s_records H14.out (by decide)).mono ?_
  rintro _ w15 ⟨v1, rfl, hr15, _, h15⟩
  have H15 := Lib.hid (And.intro hr15 h15)
  clear hr15 h15
  go_wp2_with fail
  refine (jeq_p (H15.out.1.below ((Below.refl _ _).alloc (Nat.le_refl _) _)) (lit_one w15 bOne 9) (by decide)).mono ?_
  rintro _ w16 ⟨rfl, hb16⟩
  rw [decide_eq_true (rfl : [bOne] = [bOne])]
  have H16 := Lib.hid (((H15.out.2.below ((Below.refl _ _).alloc (Nat.le_refl _) _)).below hb16).perm (List.perm_append_comm (l₁ := [_, _, _]) (l₂ := [_])))
  clear hb16
  go_wp2_with fail
  refine (s_records H16.out (by decide)).mono ?_
  rintro _ w17 ⟨v2, rfl, hr17, _, h17⟩
  have H17 := Lib.hid (And.intro hr17 h17)
  clear hr17 h17
  go_wp2_with fail
  refine (jeq_p (H17.out.1.below ((Below.refl _ _).alloc (Nat.le_refl _) _)) (lit_one w17 bOne 9) (by decide)).mono ?_
  rintro _ w18 ⟨rfl, hb18⟩
  rw [decide_eq_true (rfl : [bOne] = [bOne])]
  have H18 := Lib.hid ((H17.out.2.below ((Below.refl _ _).alloc (Nat.le_refl _) _)).below hb18).rot
  clear hb18
  go_wp2_with fail
  refine (s_first H18.out).mono ?_
  rintro _ _ ⟨e, rfl⟩
  rw [show (Ending.returned (Value.string (⟨bState, [], 16, false⟩ : Jr).first)) = .returned (.string ⟨#[115, 116, 97, 116, 101]⟩) from rfl] at e
  subst e
  go_wp2_with fail
  refine (s_records H18.out (by decide)).mono ?_
  rintro _ w19 ⟨v3, rfl, ⟨ad3, cap3, rfl, _⟩, _, h19⟩
  have H19 := Lib.hid (h19.perm (List.perm_append_comm (l₁ := [_, _, _]) (l₂ := [_])))
  clear h19
  go_wp2_with fail
  refine (s_first H19.out).mono ?_
  rintro _ _ ⟨e, rfl⟩
  rw [show (Ending.returned (Value.string (⟨bState, [], 16, false⟩ : Jr).first)) = .returned (.string ⟨#[115, 116, 97, 116, 101]⟩) from rfl] at e
  subst e
  go_wp2_with fail
  refine (s_long H19.out).mono ?_
  rintro _ _ ⟨rfl, rfl⟩
  go_wp2_with fail
  go_ret
  exact ⟨rfl, H19.out.bl⟩

#print axioms begun4_true
end Go.Proofs.YtaekieoingflaaaGreatDoor
