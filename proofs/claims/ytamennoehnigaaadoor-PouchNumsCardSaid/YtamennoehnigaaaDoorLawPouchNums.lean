/-
  PouchNums answers true.
-/
import Derived.Test.YtamennoehnigaaaDoorDigits2
import Derived.Test.YtamennoehnigaaaDoorLaw1
namespace Go.Proofs.YtamennoehnigaaaDoor
open Go.RowKit

/-- Texts that are no number's. -/
def badS (D : ByteArray) : Nat → ByteArray
  | 0 => ⟨#[48]⟩ ++ D
  | 1 => ⟨#[43]⟩ ++ D
  | 2 => D ++ ⟨#[32]⟩
  | 3 => ⟨#[45, 48]⟩
  | _ => D ++ ⟨#[57, 57, 57, 57, 57, 57, 57, 57, 57, 57, 57, 57, 57, 57, 57, 57, 57, 57, 57, 57]⟩

theorem decS_le (n : Int) (h0 : -9223372036854775808 ≤ n) (h1 : n ≤ 9223372036854775807) : 1 ≤ (decS n).size ∧ (decS n).size ≤ 20 := by
  have := itoa_len n h0 h1
  rw [← decS_list] at this
  exact this

theorem bad_size (D : ByteArray) (h : D.size ≤ 20) (j : Nat) : (badS D j).size ≤ 40 := by
  have e1 : (⟨#[48]⟩ : ByteArray).size = 1 := rfl
  have e2 : (⟨#[43]⟩ : ByteArray).size = 1 := rfl
  have e3 : (⟨#[32]⟩ : ByteArray).size = 1 := rfl
  have e4 : (⟨#[57, 57, 57, 57, 57, 57, 57, 57, 57, 57, 57, 57, 57, 57, 57, 57, 57, 57, 57, 57]⟩ : ByteArray).size = 20 := rfl
  have e5 : (⟨#[45, 48]⟩ : ByteArray).size = 2 := rfl
  unfold badS
  split
  · rw [ByteArray.size_append]; omega
  · rw [ByteArray.size_append]; omega
  · rw [ByteArray.size_append]; omega
  · omega
  · rw [ByteArray.size_append]; omega

theorem bad_none (n : Int) (h0 : -9223372036854775808 ≤ n) (h1 : n ≤ 9223372036854775807) (j : Nat) : numP (badS (decS n) j) = none := by
  have hn := (itoa_len n h0 h1).1
  apply numP_no
  intro v g0 g1
  unfold badS
  split
  · rw [ByteArray.data_append, Array.toList_append, decS_list]; exact itoa_lead v n
  · rw [ByteArray.data_append, Array.toList_append, decS_list]; exact itoa_plus v _
  · rw [ByteArray.data_append, Array.toList_append, decS_list]; exact itoa_blank v _
  · exact itoa_m0 v
  · rw [ByteArray.data_append, Array.toList_append, decS_list]
    refine itoa_long v _ g0 g1 ?_
    rw [List.length_append]
    have : (⟨#[57, 57, 57, 57, 57, 57, 57, 57, 57, 57, 57, 57, 57, 57, 57, 57, 57, 57, 57, 57]⟩ : ByteArray).data.toList.length = 20 := rfl
    omega

theorem num_wf (n : Int) (h0 : -9223372036854775808 ≤ n) (h1 : n ≤ 9223372036854775807) : putS 1 n ⟨#[]⟩ .nil = ((decS ((decS n).size : Int) ++ ⟨#[58]⟩) ++ decS n) ++ ⟨#[35]⟩ := by
  unfold putS
  have e0 : (⟨#[]⟩ : ByteArray).toList = [] := by rw [ByteArray.toList_eq]
  rw [if_pos (by unfold vmay vmayB pureB; simp [F.len, F.ok, F.dep, F.cnt, e0])]
  unfold putV
  rw [if_pos rfl, frame_eq _ _ (by have := decS_le n h0 h1; omega)]

/-- What the second All is asked. -/
theorem bad_all (n : Int) (h0 : -9223372036854775808 ≤ n) (h1 : n ≤ 9223372036854775807) (j : Nat) (w : World) (hlib : LibAt w) :
    Calls Tryd.prog 44 #[.string (((decS ((badS (decS n) j).size : Int) ++ ⟨#[58]⟩) ++ badS (decS n) j) ++ ⟨#[35]⟩)] w fun e w' => e = .returned (.tuple #[.agg #[.int .i64 0, .int .i64 0, .string ⟨#[]⟩, .slice none 0 0], .int .i64 1]) ∧ Below w.heap.size w w' := by
  have hb := bad_size (decS n) (decS_le n h0 h1).2 j
  rw [frame_eq _ _ (by omega)]
  have hz := frameS_size (badS (decS n) j) ⟨#[35]⟩
  have e : (⟨#[35]⟩ : ByteArray).size = 1 := rfl
  have := All_p (frameS (badS (decS n) j) ⟨#[35]⟩) w (by omega) hlib
  rw [all_num _ (by omega), bad_none n h0 h1 j] at this
  exact this.mono fun _ _ h => ⟨h.2, h.1⟩

theorem num_all (n : Int) (h0 : -9223372036854775808 ≤ n) (h1 : n ≤ 9223372036854775807) (w : World) (hlib : LibAt w) :
    Calls Tryd.prog 44 #[.string (((decS ((decS n).size : Int) ++ ⟨#[58]⟩) ++ decS n) ++ ⟨#[35]⟩)] w fun e w' => (∃ ad cap, e = .returned (.tuple #[.agg #[.int .i64 1, .int .i64 n, .string ⟨#[]⟩, .slice ad 0 cap], .int .i64 0])) ∧ Below w.heap.size w w' := by
  have hb := decS_le n h0 h1
  rw [frame_eq _ _ (by omega)]
  have hz := frameS_size (decS n) ⟨#[35]⟩
  have e : (⟨#[35]⟩ : ByteArray).size = 1 := rfl
  have := All_p (frameS (decS n) ⟨#[35]⟩) w (by omega) hlib
  rw [all_num _ (by omega), numP_dec n h0 h1] at this
  exact this.mono fun _ _ ⟨h1, ad, cap, h2, _⟩ => ⟨⟨ad, cap, h2⟩, h1⟩

theorem num_put (n : Int) (h0 : -9223372036854775808 ≤ n) (h1 : n ≤ 9223372036854775807) (w : World) (hlib : LibAt w) :
    Calls Tryd.prog 38 #[.agg #[.int .i64 1, .int .i64 n, .string ⟨#[]⟩, .slice none 0 0]] w fun e w' => e = .returned (.string (((decS ((decS n).size : Int) ++ ⟨#[58]⟩) ++ decS n) ++ ⟨#[35]⟩)) ∧ Below w.heap.size w w' := by
  have := Put_p 1 n ⟨#[]⟩ .nil none 0 w hlib.2.2.2 ⟨h0, h1⟩ trivial (.inl rfl)
  rw [num_wf n h0 h1] at this
  exact this

set_option maxRecDepth 100000 in
set_option maxHeartbeats 4000000 in
theorem pouchNums_j (n lead : Int) (h0 : -9223372036854775808 ≤ n) (h1 : n ≤ 9223372036854775807) (j : Nat) (hj : (lead.tmod 5 + 5) % 5 = (j : Int)) (w : World) (hbg : BegunTrue) (h : LibAt w) :
    Calls Tryd.prog 11 #[.int .i64 n, .int .i64 lead] w fun e w' => e = .returned (.bool true) ∧ Below w.heap.size w w' := by
  have HL := Lib.hid h
  have HB := Lib.hid (hbg w h)
  have HD := Lib.hid (rDigits n h0 h1)
  have HP := Lib.hid (num_put n h0 h1)
  have HA := Lib.hid (num_all n h0 h1)
  have HX := Lib.hid (bad_all n h0 h1 j)
  have hs := decS_le n h0 h1
  have hbs := bad_size (decS n) hs.2 j
  generalize decS n = D at *
  have HD1 := Lib.hid (rDigits (D.size : Int) (by omega) (by omega))
  have HD2 : Hid (∀ (m : Int) (w : World), m = ((badS D j).size : Int) → Calls Tryd.prog 43 #[.int .i64 m] w fun e w' => e = .returned (.string (decS ((badS D j).size : Int))) ∧ Below w.heap.size w w') := Lib.hid (fun m w hm => by subst hm; exact rDigits _ (by omega) (by omega) w)
  have hE1 := decS_le (D.size : Int) (by omega) (by omega)
  have hE2 := decS_le ((badS D j).size : Int) (by omega) (by omega)
  generalize decS (D.size : Int) = E1 at *
  generalize decS ((badS D j).size : Int) = E2 at *
  have hj5 : j < 5 := by omega
  have r0 : -5 < lead.tmod 5 := by have := Int.lt_tmod_of_pos lead (show (0 : Int) < 5 by decide); omega
  have r1 : lead.tmod 5 < 5 := Int.tmod_lt_of_pos lead (by decide)
  obtain ⟨r, hr⟩ : ∃ r, lead.tmod 5 = r := ⟨_, rfl⟩
  rw [hr] at hj r0 r1
  clear hbg h
  rcases j with _|_|_|_|_|j
  all_goals first | (exfalso; omega) | skip
  all_goals
    simp only [badS, Nat.zero_add, Nat.reduceAdd] at *
    go_enter Tryd.func11, Tryd.ntmps11
    go_wp2_with fail
    refine HB.out.mono ?_
    rintro _ w0 ⟨rfl, hb0⟩
    have HB0 := Lib.hid hb0
    clear hb0
    go_wp2_with fail
    refine (HD.out _).mono ?_
    rintro _ w1 ⟨rfl, hb⟩
    have HB1 := Lib.hid (HB0.out.trans (hb.mono HB0.out.size))
    clear hb
    go_wp2_with fail
    refine (HP.out _ (HL.out.below HB1.out)).mono ?_
    rintro _ w2 ⟨rfl, hb⟩
    have HB2 := Lib.hid (HB1.out.trans (hb.mono HB1.out.size))
    clear hb
    go_wp2_with fail
    refine (HA.out _ (HL.out.below HB2.out)).mono ?_
    rintro _ w3 ⟨⟨ad, cap, rfl⟩, hb⟩
    have HB3 := Lib.hid ((HB2.out.trans (hb.mono HB2.out.size)).alloc (Nat.le_trans HB2.out.size hb.size) (.cells #[.int .i64 1, .int .i64 n, .string ⟨#[]⟩, .slice ad 0 cap] 58))
    clear hb
    go_wp2_with fail
    refine (HD2.out _ _ (by first | (simp [ByteArray.size_append]; done) | rfl | (simp [ByteArray.size_append]; rfl))).mono ?_
    rintro _ w4 ⟨rfl, hb⟩
    have c0 : w4.cell? ⟨w3.heap.size, 0, none⟩ = some (.int .i64 1) := by rw [hb.cell (by simp; omega)]; go_simp
    have c1 : w4.cell? ⟨w3.heap.size, 1, none⟩ = some (.int .i64 n) := by rw [hb.cell (by simp; omega)]; go_simp
    have hV4 : w3.heap.size < w4.heap.size := by have := hb.size; simp at this; omega
    have HB4 := Lib.hid ((HB3.out.alloc HB3.out.size _).trans (hb.mono (HB3.out.alloc HB3.out.size _).size))
    clear hb
    go_wp2_with fail
    refine (HX.out _ (HL.out.below HB4.out)).mono ?_
    rintro _ w5 ⟨rfl, hb⟩
    have d0 : w5.cell? ⟨w3.heap.size, 0, none⟩ = some (.int .i64 1) := by rw [hb.cell hV4]; exact c0
    have d1 : w5.cell? ⟨w3.heap.size, 1, none⟩ = some (.int .i64 n) := by rw [hb.cell hV4]; exact c1
    have hV5 : w3.heap.size < w5.heap.size := Nat.lt_of_lt_of_le hV4 hb.size
    have hb5 := (HB4.out.trans (hb.mono HB4.out.size)).alloc (Nat.le_trans HB4.out.size hb.size) (.cells #[.int .i64 0, .int .i64 0, .string ⟨#[]⟩, .slice none 0 0] 58)
    have HB5 := Lib.hid hb5
    clear hb hb5 c0 c1
    go_wp2_with fail
    refine (HD1.out _).mono ?_
    rintro _ w6 ⟨rfl, hb⟩
    have c0 : w6.cell? ⟨w3.heap.size, 0, none⟩ = some (.int .i64 1) := by rw [hb.cell (by simp; omega)]; go_simp
    have c1 : w6.cell? ⟨w3.heap.size, 1, none⟩ = some (.int .i64 n) := by rw [hb.cell (by simp; omega)]; go_simp
    have HB6 := Lib.hid (HB5.out.trans (hb.mono HB5.out.size))
    clear hb d0 d1
    go_wp2_with fail
    go_ret
    exact ⟨rfl, HB6.out⟩

theorem pouchNums_walk (n lead : Int) (w : World) (hbg : BegunTrue) (h : LibAt w) (h0 : -9223372036854775808 ≤ n) (h1 : n ≤ 9223372036854775807) :
    Calls Tryd.prog 11 #[.int .i64 n, .int .i64 lead] w fun e w' => e = .returned (.bool true) ∧ Below w.heap.size w w' := by
  have r0 : -5 < lead.tmod 5 := by have := Int.lt_tmod_of_pos lead (show (0 : Int) < 5 by decide); omega
  exact pouchNums_j n lead h0 h1 ((lead.tmod 5 + 5) % 5).toNat (by omega) w hbg h

end Go.Proofs.YtamennoehnigaaaDoor
