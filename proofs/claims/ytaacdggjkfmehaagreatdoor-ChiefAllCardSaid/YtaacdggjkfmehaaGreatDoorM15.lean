/-
  Contracts of the program, and what they rest on.
-/
import Derived.Test.YtaacdggjkfmehaaGreatDoorM11
import Derived.Test.YtaacdggjkfmehaaGreatDoorM07
import Derived.Test.YtaacdggjkfmehaaGreatDoorM13
import Derived.Lib.SlFresh
import Derived.Test.YtaacdggjkfmehaaGreatDoorM14
namespace Go.Proofs.YtaacdggjkfmehaaGreatDoor
open Go.RowKit Go.Maps Go.Proofs.MapD Go.Proofs.Chest
theorem rtear_p {w : World} {c : Nat} {F : List Nat} {st : St} (h : Rep w c F st) (hL : st.l.length ≤ 1000000) (n : Int) :
    Calls Tryz.prog 15 #[.pointer (some ⟨c, 0, none⟩), .int .i64 n] w fun x w' => x = .returned (.pointer (some ⟨w.heap.size, 0, none⟩)) ∧ Torn w (tear st n) w' := by
  obtain ⟨m, L, hR, hl, rfl⟩ := h
  obtain ⟨room, l⟩ := st
  simp only at hR hl hL
  subst hl
  cases m with
  | none => exact tear_none hR n
  | some b => exact tear_some hR (by unfold ab at hL; rw [List.length_map] at hL; exact hL) n
def Ch (w0 w : World) (c : Nat) (st : St) : Prop := (∃ F, Rep w c F st ∧ ∀ k ∈ F, w0.heap.size ≤ k) ∧ Below w0.heap.size w0 w
theorem Ch.below {w0 w w' : World} {c : Nat} {st : St} (h : Ch w0 w c st) (hb : Below w.heap.size w w') : Ch w0 w' c st := by
  obtain ⟨⟨F, h1, h2⟩, h3⟩ := h
  exact ⟨⟨F, h1.below hb, h2⟩, h3.trans (hb.mono h3.size)⟩
theorem Ch.wf {w0 w : World} {c : Nat} {st : St} (h : Ch w0 w c st) : Wf st := by
  obtain ⟨⟨F, h1, _⟩, _⟩ := h
  exact h1.wf
theorem new_c (room : Int) {w0 w : World} (hb : Below w0.heap.size w0 w) :
    Calls Tryz.prog 7 #[.int .i64 room] w fun e w' => ∃ c, e = .returned (.pointer (some ⟨c, 0, none⟩)) ∧ Ch w0 w' c ⟨(min (max room 0) 1048576).toNat, []⟩ := by
  refine (new_p room w).mono ?_
  rintro e w' ⟨rfl, h1, h2⟩
  exact ⟨_, rfl, ⟨_, h1, by simp; exact hb.size⟩, hb.trans (h2.below hb.size (by simp))⟩
section
variable {w0 w : World} {c : Nat} {st : St}
theorem write_c (h : Ch w0 w c st) (hL : st.l.length ≤ 1000000) (n s : ByteArray) (hn : n.size ≤ 1000000) :
    Calls Tryz.prog 99 #[.pointer (some ⟨c, 0, none⟩), .string n, .string s] w fun x w' => x = .returned (.int .i64 (write st n s).1) ∧ Ch w0 w' c (write st n s).2 := by
  have h0 := h
  obtain ⟨⟨F, h1, h2⟩, h3⟩ := h
  exact (write_p h1 hL n s hn).mono fun x w' ⟨h4, h5⟩ => ⟨h4, by
    obtain ⟨F', h6, h7, h8⟩ := h5
    have := h3.size
    refine ⟨⟨F', h6, fun k hk => ?_⟩, h3.trans (h8.below h3.size h2)⟩
    rcases h7 k hk with h9 | h9
    · exact h2 k h9
    · omega⟩
theorem press_c (h : Ch w0 w c st) (n : ByteArray) (hn : n.size ≤ 1000000) :
    Calls Tryz.prog 100 #[.pointer (some ⟨c, 0, none⟩), .string n] w fun x w' => x = .returned (.int .i64 (press st n).1) ∧ Ch w0 w' c (press st n).2 := by
  obtain ⟨⟨F, h1, h2⟩, h3⟩ := h
  exact (rpress_p h1 n hn).mono fun x w' ⟨h4, h5⟩ => ⟨h4, by
    obtain ⟨F', h6, h7, h8⟩ := h5
    have := h3.size
    refine ⟨⟨F', h6, fun k hk => ?_⟩, h3.trans (h8.below h3.size h2)⟩
    rcases h7 k hk with h9 | h9
    · exact h2 k h9
    · omega⟩
theorem cut_c (h : Ch w0 w c st) (n : ByteArray) (hn : n.size ≤ 1000000) (k : Int) :
    Calls Tryz.prog 50 #[.pointer (some ⟨c, 0, none⟩), .string n, .int .i64 k] w fun x w' => x = .returned (.int .i64 (cut st n k).1) ∧ Ch w0 w' c (cut st n k).2 := by
  obtain ⟨⟨F, h1, h2⟩, h3⟩ := h
  exact (rcut_p h1 n hn k).mono fun x w' ⟨h4, h5⟩ => ⟨h4, by
    obtain ⟨F', h6, h7, h8⟩ := h5
    have := h3.size
    refine ⟨⟨F', h6, fun k hk => ?_⟩, h3.trans (h8.below h3.size h2)⟩
    rcases h7 k hk with h9 | h9
    · exact h2 k h9
    · omega⟩
theorem call_c (h : Ch w0 w c st) (hL : st.l.length ≤ 1000000) (f t : ByteArray) (hf : f.size ≤ 1000000) (ht : t.size ≤ 1000000) :
    Calls Tryz.prog 76 #[.pointer (some ⟨c, 0, none⟩), .string f, .string t] w fun x w' => x = .returned (.int .i64 (call st f t).1) ∧ Ch w0 w' c (call st f t).2 := by
  obtain ⟨⟨F, h1, h2⟩, h3⟩ := h
  exact (rcall_p h1 hL f t hf ht).mono fun x w' ⟨h4, h5⟩ => ⟨h4, by
    obtain ⟨F', h6, h7, h8⟩ := h5
    have := h3.size
    refine ⟨⟨F', h6, fun k hk => ?_⟩, h3.trans (h8.below h3.size h2)⟩
    rcases h7 k hk with h9 | h9
    · exact h2 k h9
    · omega⟩
theorem tear_c (h : Ch w0 w c st) (hL : st.l.length ≤ 1000000) (n : Int) :
    Calls Tryz.prog 15 #[.pointer (some ⟨c, 0, none⟩), .int .i64 n] w fun x w' => ∃ d, x = .returned (.pointer (some ⟨d, 0, none⟩)) ∧ Ch w0 w' c st ∧ Ch w0 w' d (tear st n) := by
  have h0 := h
  obtain ⟨⟨F, h1, h2⟩, h3⟩ := h
  refine (rtear_p h1 hL n).mono ?_
  rintro x w' ⟨rfl, F', h4, h5, h6⟩
  refine ⟨_, rfl, h0.below h6, ⟨F', h4, fun k hk => ?_⟩, h3.trans (h6.mono h3.size)⟩
  exact Nat.le_trans h3.size (h5 k hk)
theorem read_c (h : Ch w0 w c st) (n : ByteArray) (hn : n.size ≤ 1000000) :
    Calls Tryz.prog 47 #[.pointer (some ⟨c, 0, none⟩), .string n] w fun x w' => x = .returned (.tuple #[.string (readS st n).1, .bool (readS st n).2]) ∧ w = w' := by
  obtain ⟨⟨F, h1, h2⟩, h3⟩ := h
  exact rread_p h1 n hn
theorem pressed_c (h : Ch w0 w c st) (n : ByteArray) (hn : n.size ≤ 1000000) :
    Calls Tryz.prog 110 #[.pointer (some ⟨c, 0, none⟩), .string n] w fun x w' => x = .returned (.int .i64 ((pressedS st n : Nat) : Int)) ∧ w = w' := by
  obtain ⟨⟨F, h1, h2⟩, h3⟩ := h
  exact rpressed_p h1 n hn
theorem room_c (h : Ch w0 w c st) :
    Calls Tryz.prog 111 #[.pointer (some ⟨c, 0, none⟩)] w fun x w' => x = .returned (.int .i64 (st.room : Int)) ∧ w = w' := by
  obtain ⟨⟨F, h1, h2⟩, h3⟩ := h
  exact rroom_p h1
end
end Go.Proofs.YtaacdggjkfmehaaGreatDoor
namespace Go.Proofs.YtaacdggjkfmehaaGreatDoor
open Go.RowKit Go.Proofs.Flo Go.Proofs.Cpl
def markS (s : ByteArray) : ByteArray := strN (textL (gon (0, 1) s.data.toList))
theorem markS_is (s : ByteArray) : IsText (markS s) (gon (0, 1) s.data.toList) := ⟨ok_gon ok_i _, rfl⟩
theorem markS_size (s : ByteArray) : (markS s).size = 8 := text_size _
def leafS (s : ByteArray) : ByteArray := if 400000 < s.size then ⟨#[]⟩ else markS s ++ frameS s ⟨#[44]⟩
theorem leafS_eq {s : ByteArray} (h : s.size ≤ 400000) : leafS s = markS s ++ frameS s ⟨#[44]⟩ := if_neg (by omega)
theorem leafS_size {s : ByteArray} (h : s.size ≤ 400000) : (leafS s).size = 10 + Lib.nDigits s.size + s.size := by
  rw [leafS_eq h, ByteArray.size_append, markS_size, frameS_len _ _ (by omega)]
  show 8 + (Lib.nDigits s.size + 1 + s.size + 1) = _
  omega
def noughts8 : ByteArray := ⟨#[48, 48, 48, 48, 48, 48, 48, 48]⟩
def padS (s : ByteArray) : ByteArray := s.extract 0 (min s.size 8) ++ noughts8.extract (min s.size 8) 8
theorem padS_size (s : ByteArray) : (padS s).size = 8 := by
  unfold padS
  have : noughts8.size = 8 := rfl
  rw [ByteArray.size_append, ByteArray.size_extract, ByteArray.size_extract]
  omega
def markedB (t : ByteArray) : Bool :=
  match rr 0 0 0 t.data.toList with
  | some (a, b) => decide (a < 65521) && decide (b < 65521)
  | none => false
theorem marked_yes {t : ByteArray} {p : Int × Int} (h : IsText t p) : markedB t = true := by
  obtain ⟨_, a, b, rfl, ha, hb, hr⟩ := is_rr h
  unfold markedB
  rw [hr]
  simp [ha, hb]
theorem marked_of {t : ByteArray} (h8 : t.size = 8) (h : markedB t = true) : ∃ p, IsText t p := by
  unfold markedB at h
  split at h
  · rename_i a b hr
    simp only [Bool.and_eq_true, decide_eq_true_eq] at h
    exact ⟨_, rr_is h8 hr h.1 h.2⟩
  · cases h
theorem marked_no {t : ByteArray} (h : markedB t = false) : ∀ p, ¬ IsText t p := fun p hp => by
  rw [marked_yes hp] at h
  cases h
def turnS (s : ByteArray) : ByteArray × Nat × Int :=
  if markedB (padS s) = false then (⟨#[]⟩, 0, 3) else if s.size < 8 then (⟨#[]⟩, 0, 2) else
    match getR (s.extract 8 s.size) with
    | .error e => (⟨#[]⟩, 0, if e = 2 then 2 else 3)
    | .ok x => if x.k = 2 ∧ markS x.s = s.extract 0 8 then (x.s, 8 + x.b, 0) else (⟨#[]⟩, 0, 3)
theorem extract_none (t : ByteArray) (k n : Nat) (h : t.size ≤ k) : t.extract k n = ⟨#[]⟩ := empty_of_size (by rw [ByteArray.size_extract]; omega)
theorem extract_fst (a b : ByteArray) (k : Nat) (h : k ≤ a.size) : (a ++ b).extract 0 k = a.extract 0 k := by
  apply ByteArray.ext
  apply Array.ext'
  rw [Lib.extract_data, Lib.extract_data, append_toList]
  simp only [List.drop_zero]
  exact List.take_append_of_le_length (by show k - 0 ≤ a.size; omega)
theorem pad_whole {s : ByteArray} (h : 8 ≤ s.size) : padS s = s.extract 0 8 := by
  unfold padS
  rw [Nat.min_eq_right h, extract_none noughts8 8 8 (Nat.le_refl 8), append_none]
theorem getR_frame (s r : ByteArray) (h : s.size ≤ 9999999) : getR (frameS s ⟨#[44]⟩ ++ r) = .ok ⟨2, 0, s, .nil, (frameS s ⟨#[44]⟩).size, 1⟩ :=
  getP_str 5 6000 (by decide) s r h
theorem turn_leaf (s r : ByteArray) (h : s.size ≤ 400000) : turnS (leafS s ++ r) = (s, (leafS s).size, 0) := by
  have h8 := markS_size s
  have e0 : leafS s ++ r = markS s ++ (frameS s ⟨#[44]⟩ ++ r) := by rw [leafS_eq h, ByteArray.append_assoc]
  have e1 : (leafS s ++ r).extract 0 8 = markS s := by
    rw [e0, extract_fst _ _ _ (by omega), ← h8, extract_all]
  have e2 : (leafS s ++ r).extract 8 (leafS s ++ r).size = frameS s ⟨#[44]⟩ ++ r := by
    have := extract_app (markS s) (frameS s ⟨#[44]⟩ ++ r)
    rw [h8] at this
    rw [e0]
    exact this
  have e3 : 8 ≤ (leafS s ++ r).size := by
    rw [e0, ByteArray.size_append]
    omega
  unfold turnS
  rw [pad_whole e3, e1, e2, marked_yes (markS_is s), if_neg (by decide), if_neg (by omega), getR_frame _ _ (by omega)]
  simp only [and_self, if_true]
  rw [leafS_eq h, ByteArray.size_append, h8]
theorem turn_bd {s : ByteArray} (h : (turnS s).2.2 = 0) : 9 ≤ (turnS s).2.1 ∧ (turnS s).2.1 ≤ s.size := by
  unfold turnS at h ⊢
  split at h
  · cases h
  · split at h
    · cases h
    · rename_i h1 h2
      rw [if_neg h1, if_neg h2]
      split at h
      · simp only at h
        split at h <;> cases h
      · rename_i x hx
        split at h
        · rename_i h3
          rw [if_pos h3]
          have := getP_bd 6 _ 6000 x hx (by decide)
          have hb := cutP_bd _ this.2.2
          rw [← this.2.1, ByteArray.size_extract] at hb
          simp only
          omega
        · cases h
theorem turn_err (s : ByteArray) : (turnS s).2.2 = 0 ∨ (turnS s).2.2 = 2 ∨ (turnS s).2.2 = 3 := by
  unfold turnS
  split
  · simp
  · split
    · simp
    · split
      · simp only
        split <;> simp
      · split <;> simp
def walkS : Nat → ByteArray → List ByteArray × Nat × Int
  | 0, _ => ([], 0, 0)
  | f + 1, s => if s.size = 0 then ([], 0, 0) else if (turnS s).2.2 = 0 then
      ((turnS s).1 :: (walkS f (s.extract (turnS s).2.1 s.size)).1, (turnS s).2.1 + (walkS f (s.extract (turnS s).2.1 s.size)).2.1, (walkS f (s.extract (turnS s).2.1 s.size)).2.2)
    else if (turnS s).2.2 = 2 then ([], 0, 0) else ([], 0, 3)
def leavesS : List ByteArray → ByteArray
  | [] => ⟨#[]⟩
  | s :: l => leafS s ++ leavesS l
theorem leaves_one (s : ByteArray) : leavesS [s] = leafS s := append_none _
theorem walk_leaves (rest : ByteArray) : ∀ (l : List ByteArray) (f : Nat), (∀ s ∈ l, s.size ≤ 400000) → (leavesS l ++ rest).size ≤ f →
    (rest.size = 0 ∨ (turnS rest).2.2 = 2 → walkS f (leavesS l ++ rest) = (l, (leavesS l).size, 0)) ∧ (rest.size ≠ 0 → (turnS rest).2.2 = 3 → (walkS f (leavesS l ++ rest)).2.2 = 3)
  | [], f, _, hf => by
    have e0 : leavesS [] ++ rest = rest := by
      show (⟨#[]⟩ : ByteArray) ++ rest = rest
      apply ByteArray.ext
      apply Array.ext'
      rw [append_toList]
      rfl
    rw [e0] at hf ⊢
    cases f with
    | zero =>
      refine ⟨fun _ => rfl, fun h1 _ => absurd (by omega : rest.size = 0) h1⟩
    | succ f =>
      unfold walkS
      refine ⟨fun h => ?_, fun h1 h2 => ?_⟩
      · rcases h with h | h
        · rw [if_pos h]; rfl
        · split
          · rfl
          · first | rfl | (rw [if_neg (by rw [h]; decide)]; rfl) | (rw [if_neg (by rw [h]; decide), if_pos h]; rfl)
      · rw [if_neg h1, if_neg (by rw [h2]; decide), if_neg (by rw [h2]; decide)]
  | s :: l, f, hl, hf => by
    have hs := hl s (by simp)
    have hz := leafS_size hs
    have e0 : leavesS (s :: l) ++ rest = leafS s ++ (leavesS l ++ rest) := by
      show (leafS s ++ leavesS l) ++ rest = _
      rw [ByteArray.append_assoc]
    rw [e0] at hf ⊢
    have e1 := turn_leaf s (leavesS l ++ rest) hs
    have e2 := extract_app (leafS s) (leavesS l ++ rest)
    rw [ByteArray.size_append] at hf
    cases f with
    | zero => omega
    | succ f =>
      have ih := walk_leaves rest l f (fun x hx => hl x (by simp [hx])) (by omega)
      unfold walkS
      rw [if_neg (by rw [ByteArray.size_append]; omega), e1]
      simp only [if_true]
      rw [e2]
      refine ⟨fun h => ?_, fun h1 h2 => ih.2 h1 h2⟩
      rw [ih.1 h]
      show (s :: l, (leafS s).size + (leavesS l).size, (0 : Int)) = (s :: l, (leafS s ++ leavesS l).size, 0)
      rw [ByteArray.size_append]
end Go.Proofs.YtaacdggjkfmehaaGreatDoor
namespace Go.Proofs.YtaacdggjkfmehaaGreatDoor
open Go.RowKit Go.Proofs.Flo Go.Proofs.Cpl
theorem dig_take : ∀ (u k : Nat), (Lib.decDigits u).take k = [] ∨ ∃ v, v ≤ u ∧ (Lib.decDigits u).take k = Lib.decDigits v := by
  intro u
  induction u using Nat.strongRecOn with
  | _ u ih =>
    intro k
    by_cases h : u < 10
    · have e : Lib.decDigits u = [UInt8.ofNat (48 + u)] := by rw [Lib.decDigits, dif_pos h]
      cases k with
      | zero => exact .inl rfl
      | succ k => exact .inr ⟨u, Nat.le_refl _, by rw [e]; simp⟩
    · have e : Lib.decDigits u = Lib.decDigits (u / 10) ++ [UInt8.ofNat (48 + u % 10)] := by rw [Lib.decDigits, dif_neg h]
      by_cases hk : k ≤ (Lib.decDigits (u / 10)).length
      · rw [e, List.take_append_of_le_length hk]
        rcases ih (u / 10) (by omega) k with h1 | ⟨v, h1, h2⟩
        · exact .inl h1
        · exact .inr ⟨v, by omega, h2⟩
      · refine .inr ⟨u, Nat.le_refl _, List.take_of_length_le ?_⟩
        rw [e, List.length_append, List.length_singleton]
        omega
theorem take_cons_more {α : Type} (a : List α) (c : α) (b : List α) (k : Nat) (h : a.length < k) : (a ++ c :: b).take k = a ++ c :: b.take (k - a.length - 1) := by
  rw [List.take_append, List.take_of_length_le (by omega)]
  congr 1
  obtain ⟨j, hj⟩ : ∃ j, k - a.length = j + 1 := ⟨k - a.length - 1, by omega⟩
  rw [hj]
  rfl
theorem front_more (t e : ByteArray) (he : e.size = 1) (h : t.size ≤ 9999999) (k : Nat) (hk : k < (frameS t e).size) : (cutP ((frameS t e).extract 0 k)).2.2 = 2 := by
  have hsz := frameS_len t e h
  have hd : (Lib.decDigits t.size).length = Lib.nDigits t.size := Lib.decDigits_length _
  have hl : ((frameS t e).extract 0 k).data.toList = (Lib.decDigits t.size ++ 58 :: (t.data.toList ++ e.data.toList)).take k := by
    rw [Lib.extract_data, frame_list t e h]
    simp
  have hz : ((frameS t e).extract 0 k).size = k := by rw [ByteArray.size_extract]; omega
  unfold cutP
  rw [hl]
  by_cases h1 : k ≤ (Lib.decDigits t.size).length
  · rw [List.take_append_of_le_length h1]
    rcases dig_take t.size k with h2 | ⟨v, h2, h3⟩
    · rw [h2]
      rfl
    · have h4 := lenP_dig [] v (by omega)
      rw [List.append_nil] at h4
      rw [h3, h4]
      rfl
  · have hlen : lenP 0 0 ((Lib.decDigits t.size ++ 58 :: (t.data.toList ++ e.data.toList)).take k) = (t.size, Lib.nDigits t.size + 1, 0) := by
      have hp := Lib.nDigits_pos t.size
      rw [take_cons_more _ _ _ _ (by omega), lenP_dig _ _ (by omega), lenP, if_neg (by decide), if_neg]
      rintro (h0 | h0)
      · omega
      · exact h0 (by decide)
    rw [hlen]
    simp only [if_true]
    rw [if_pos (by rw [hz]; omega)]
theorem strN_take (l : List Int) (k : Nat) : (strN l).extract 0 k = strN (l.take k) := by
  apply ByteArray.ext
  apply Array.ext'
  rw [Lib.extract_data]
  simp [strN, List.map_take]
theorem noughts_take (k : Nat) (hk : k ≤ 8) : noughts8.extract k 8 = strN (List.replicate (8 - k) 48) := by
  match k, hk with
  | 0, _ => rfl
  | 1, _ => rfl
  | 2, _ => rfl
  | 3, _ => rfl
  | 4, _ => rfl
  | 5, _ => rfl
  | 6, _ => rfl
  | 7, _ => rfl
  | 8, _ => rfl
theorem four_cut (a j : Nat) (hj : j ≤ 4) : ∃ a', a' ≤ a ∧ fourL a' = (fourL a).take j ++ List.replicate (4 - j) 48 := by
  have d0 : dg 0 = 48 := rfl
  match j, hj with
  | 0, _ => exact ⟨0, Nat.zero_le _, rfl⟩
  | 1, _ =>
    obtain ⟨a', ha⟩ : ∃ a', a' = a / 4096 * 4096 := ⟨_, rfl⟩
    refine ⟨a', by omega, ?_⟩
    have e1 : a' / 4096 % 16 = a / 4096 % 16 := by omega
    have e2 : a' / 256 % 16 = 0 := by omega
    have e3 : a' / 16 % 16 = 0 := by omega
    have e4 : a' % 16 = 0 := by omega
    unfold fourL
    rw [e1, e2, e3, e4, d0]
    rfl
  | 2, _ =>
    obtain ⟨a', ha⟩ : ∃ a', a' = a / 256 * 256 := ⟨_, rfl⟩
    refine ⟨a', by omega, ?_⟩
    have e1 : a' / 4096 % 16 = a / 4096 % 16 := by omega
    have e2 : a' / 256 % 16 = a / 256 % 16 := by omega
    have e3 : a' / 16 % 16 = 0 := by omega
    have e4 : a' % 16 = 0 := by omega
    unfold fourL
    rw [e1, e2, e3, e4, d0]
    rfl
  | 3, _ =>
    obtain ⟨a', ha⟩ : ∃ a', a' = a / 16 * 16 := ⟨_, rfl⟩
    refine ⟨a', by omega, ?_⟩
    have e1 : a' / 4096 % 16 = a / 4096 % 16 := by omega
    have e2 : a' / 256 % 16 = a / 256 % 16 := by omega
    have e3 : a' / 16 % 16 = a / 16 % 16 := by omega
    have e4 : a' % 16 = 0 := by omega
    unfold fourL
    rw [e1, e2, e3, e4, d0]
    rfl
  | 4, _ => exact ⟨a, Nat.le_refl _, rfl⟩
theorem pad_digits (a b k : Nat) (hk : k ≤ 8) : ∃ a' b', a' ≤ a ∧ b' ≤ b ∧ (fourL a ++ fourL b).take k ++ List.replicate (8 - k) 48 = fourL a' ++ fourL b' := by
  have hl : (fourL a).length = 4 := rfl
  by_cases h : k ≤ 4
  · obtain ⟨a', h1, h2⟩ := four_cut a k h
    refine ⟨a', 0, h1, Nat.zero_le _, ?_⟩
    rw [List.take_append_of_le_length (by rw [hl]; exact h), h2, show 8 - k = (4 - k) + 4 by omega, ← List.replicate_append_replicate, List.append_assoc]
    rfl
  · obtain ⟨b', h1, h2⟩ := four_cut b (k - 4) (by omega)
    refine ⟨a, b', Nat.le_refl _, h1, ?_⟩
    rw [List.take_append, List.take_of_length_le (by rw [hl]; omega), hl, h2, List.append_assoc, show 4 - (k - 4) = 8 - k by omega]
theorem pad_front (s : ByteArray) (k : Nat) (hk : k ≤ 8) : markedB ((markS s).extract 0 k ++ noughts8.extract k 8) = true := by
  obtain ⟨a, b, hp, ha, hb⟩ := ok_nat (ok_gon ok_i s.data.toList)
  have e1 : markS s = strN (fourL a ++ fourL b) := by
    unfold markS textL
    rw [hp]
    simp
  obtain ⟨a', b', h1, h2, h3⟩ := pad_digits a b k hk
  have e2 : (markS s).extract 0 k ++ noughts8.extract k 8 = strN (fourL a' ++ fourL b') := by
    rw [e1, strN_take, noughts_take k hk, strN_append, h3]
  rw [e2]
  unfold markedB
  rw [rr_text a' b' (by omega) (by omega)]
  simp
  omega
theorem turn_front (s : ByteArray) (hs : s.size ≤ 400000) (k : Nat) (hk : k < (leafS s).size) : turnS ((leafS s).extract 0 k) = (⟨#[]⟩, 0, 2) := by
  have h8 := markS_size s
  have hz : ((leafS s).extract 0 k).size = k := by rw [ByteArray.size_extract]; omega
  have e0 := leafS_eq hs
  unfold turnS
  by_cases h : k < 8
  · have e1 : padS ((leafS s).extract 0 k) = (markS s).extract 0 k ++ noughts8.extract k 8 := by
      unfold padS
      rw [hz, Nat.min_eq_left (by omega)]
      congr 1
      rw [e0, extract_fst _ _ _ (by omega)]
      conv => lhs; rw [show k = ((markS s).extract 0 k).size by rw [ByteArray.size_extract]; omega]
      conv => lhs; rw [show ((markS s).extract 0 k).size = k by rw [ByteArray.size_extract]; omega]
      have := extract_all ((markS s).extract 0 k)
      rw [show ((markS s).extract 0 k).size = k by rw [ByteArray.size_extract]; omega] at this
      exact this
    rw [e1, pad_front s k (by omega), if_neg (by decide), if_pos (by rw [hz]; exact h)]
  · have e1 : padS ((leafS s).extract 0 k) = (markS s).extract 0 8 ++ noughts8.extract 8 8 := by
      rw [pad_whole (by rw [hz]; omega), extract_none noughts8 8 8 (Nat.le_refl 8), append_none]
      apply ByteArray.ext
      apply Array.ext'
      rw [Lib.extract_data, Lib.extract_data, Lib.extract_data, e0, append_toList]
      simp only [List.drop_zero]
      rw [List.take_take, Nat.min_eq_left (by omega), List.take_append_of_le_length (by show 8 - 0 ≤ (markS s).size; omega)]
    have e2 : ((leafS s).extract 0 k).extract 8 ((leafS s).extract 0 k).size = (frameS s ⟨#[44]⟩).extract 0 (k - 8) := by
      rw [hz]
      apply ByteArray.ext
      apply Array.ext'
      rw [Lib.extract_data, Lib.extract_data, Lib.extract_data, e0, append_toList]
      simp only [List.drop_zero, Nat.sub_zero]
      rw [List.drop_take, List.take_take, Nat.min_self, List.drop_append]
      rw [List.drop_eq_nil_of_le (show (markS s).data.toList.length ≤ 8 by show (markS s).size ≤ 8; omega), List.nil_append]
      rw [show (markS s).data.toList.length = 8 from h8, Nat.sub_self]
      rfl
    have hk2 : k - 8 < (frameS s ⟨#[44]⟩).size := by
      rw [e0, ByteArray.size_append, h8] at hk
      omega
    have e3 := front_more s ⟨#[44]⟩ rfl (by omega) (k - 8) hk2
    have e4 : getR ((frameS s ⟨#[44]⟩).extract 0 (k - 8)) = .error 2 := by
      unfold getR
      rw [getP, if_neg (by rw [e3]; decide), e3]
    rw [e1, pad_front s 8 (by omega), if_neg (by decide), if_neg (by rw [hz]; exact h), e2, e4]
    rfl
end Go.Proofs.YtaacdggjkfmehaaGreatDoor
namespace Go.Proofs.YtaacdggjkfmehaaGreatDoor
open Go.RowKit Go.Maps Go.Proofs.MapD Go.Proofs.Chest
structure It where
  p : World → List Nat → Prop
  kept : ∀ {w w' : World} {F : List Nat}, p w F → (∀ k ∈ F, w'.heap[k]? = w.heap[k]?) → p w' F
  lt : ∀ {w : World} {F : List Nat}, p w F → ∀ k ∈ F, k < w.heap.size
def sep (w : World) : List It → List Nat → Prop
  | [], F => F = []
  | i :: r, F => ∃ A B, F = A ++ B ∧ i.p w A ∧ sep w r B ∧ ∀ k ∈ A, k ∉ B
theorem sep_kept {w w' : World} : ∀ {L : List It} {F : List Nat}, sep w L F → (∀ k ∈ F, w'.heap[k]? = w.heap[k]?) → sep w' L F
  | [], _, h, _ => h
  | i :: r, F, h, hk => by
    obtain ⟨A, B, rfl, h1, h2, h3⟩ := h
    exact ⟨A, B, rfl, i.kept h1 (fun k hm => hk k (by simp [hm])), sep_kept h2 (fun k hm => hk k (by simp [hm])), h3⟩
theorem sep_lt {w : World} : ∀ {L : List It} {F : List Nat}, sep w L F → ∀ k ∈ F, k < w.heap.size
  | [], _, h => by
    subst h
    intro k hk
    cases hk
  | i :: r, F, h => by
    obtain ⟨A, B, rfl, h1, h2, h3⟩ := h
    intro k hk
    rcases List.mem_append.1 hk with hk | hk
    · exact i.lt h1 k hk
    · exact sep_lt h2 k hk
theorem sep_perm {w : World} {L L' : List It} (hp : L.Perm L') : ∀ {F : List Nat}, sep w L F → ∃ F', F.Perm F' ∧ sep w L' F' := by
  induction hp with
  | nil => exact fun {F} h => ⟨F, .refl _, h⟩
  | cons i _ ih =>
    rintro F ⟨A, B, rfl, h1, h2, h3⟩
    obtain ⟨B', h4, h5⟩ := ih h2
    exact ⟨A ++ B', h4.append_left A, A, B', rfl, h1, h5, fun k hk hm => h3 k hk (h4.mem_iff.2 hm)⟩
  | swap i j r =>
    rintro F ⟨A, B, rfl, h1, ⟨C, D, rfl, h2, h4, h5⟩, h3⟩
    refine ⟨C ++ (A ++ D), ?_, C, A ++ D, rfl, h2, ⟨A, D, rfl, h1, h4, fun k hk hm => h3 k hk (by simp [hm])⟩, fun k hk hm => ?_⟩
    · rw [← List.append_assoc, ← List.append_assoc]
      exact List.perm_append_comm.append_right D
    · rcases List.mem_append.1 hm with hm | hm
      · exact h3 k hm (by simp [hk])
      · exact h5 k hk hm
  | trans _ _ ih1 ih2 =>
    intro F h
    obtain ⟨F1, h1, h2⟩ := ih1 h
    obtain ⟨F2, h3, h4⟩ := ih2 h2
    exact ⟨F2, h1.trans h3, h4⟩
def Sp (w0 w : World) (L : List It) : Prop := (∃ F, sep w L F ∧ ∀ k ∈ F, w0.heap.size ≤ k) ∧ Below w0.heap.size w0 w
section
variable {w0 w w' : World} {L : List It} {i j : It}
theorem Sp.start (w : World) : Sp w w [] := ⟨⟨[], rfl, by simp⟩, Below.refl _ _⟩
theorem Sp.bl (h : Sp w0 w L) : Below w0.heap.size w0 w := h.2
theorem Sp.below (h : Sp w0 w L) (hb : Below w.heap.size w w') : Sp w0 w' L := by
  obtain ⟨⟨F, h1, h2⟩, h3⟩ := h
  exact ⟨⟨F, sep_kept h1 (fun k hk => hb.block k (sep_lt h1 k hk)), h2⟩, h3.trans (hb.mono h3.size)⟩
theorem Sp.perm {L' : List It} (h : Sp w0 w L) (hp : L.Perm L') : Sp w0 w L' := by
  obtain ⟨⟨F, h1, h2⟩, h3⟩ := h
  obtain ⟨F', h4, h5⟩ := sep_perm hp h1
  exact ⟨⟨F', h5, fun k hk => h2 k (h4.mem_iff.2 hk)⟩, h3⟩
theorem Sp.swap (h : Sp w0 w (i :: j :: L)) : Sp w0 w (j :: i :: L) := h.perm (.swap _ _ _)
theorem Sp.rot {a b c : It} (h : Sp w0 w (a :: b :: c :: L)) : Sp w0 w (c :: a :: b :: L) := h.perm ((List.Perm.swap c b L).cons a |>.trans (.swap c a (b :: L)))
theorem Sp.drop (h : Sp w0 w (i :: L)) : Sp w0 w L := by
  obtain ⟨⟨F, ⟨A, B, rfl, _, h4, _⟩, h2⟩, h3⟩ := h
  exact ⟨⟨B, h4, fun k hk => h2 k (by simp [hk])⟩, h3⟩
theorem Sp.new (h : Sp w0 w L) (hb : Below w.heap.size w w') (hn : ∃ F', i.p w' F' ∧ ∀ k ∈ F', w.heap.size ≤ k) : Sp w0 w' (i :: L) := by
  obtain ⟨⟨F, h1, h2⟩, h3⟩ := h
  obtain ⟨F', h4, h5⟩ := hn
  have := h3.size
  refine ⟨⟨F' ++ F, ⟨F', F, rfl, h4, sep_kept h1 (fun k hk => hb.block k (sep_lt h1 k hk)), fun k hk hm => ?_⟩, fun k hk => ?_⟩, h3.trans (hb.mono h3.size)⟩
  · have h6 := h5 k hk
    have h7 := sep_lt h1 k hm
    omega
  · rcases List.mem_append.1 hk with hk | hk
    · have := h5 k hk; omega
    · exact h2 k hk
theorem Sp.turn (h : Sp w0 w (i :: L)) : ∃ F, i.p w F ∧ (∀ k ∈ F, w0.heap.size ≤ k) ∧ ∀ (j : It) (w' : World), (∃ F', j.p w' F' ∧ (∀ k ∈ F', k ∈ F ∨ w.heap.size ≤ k) ∧ Only F w w') → Sp w0 w' (j :: L) := by
  obtain ⟨⟨F0, ⟨A, B, rfl, h1, h4, h5⟩, h2⟩, h3⟩ := h
  refine ⟨A, h1, fun k hk => h2 k (by simp [hk]), fun j w' ⟨F', h6, h7, h8⟩ => ?_⟩
  have hs := h3.size
  have hB := sep_lt h4
  refine ⟨⟨F' ++ B, ⟨F', B, rfl, h6, sep_kept h4 (fun k hk => h8.block k (hB k hk) (fun hm => h5 k hm hk)), fun k hk hm => ?_⟩, fun k hk => ?_⟩, h3.trans (h8.below hs (fun k hk => h2 k (by simp [hk])))⟩
  · rcases h7 k hk with h9 | h9
    · exact h5 k h9 hm
    · have := hB k hm; omega
  · rcases List.mem_append.1 hk with hk | hk
    · rcases h7 k hk with h9 | h9
      · exact h2 k (by simp [h9])
      · omega
    · exact h2 k (by simp [hk])
theorem Sp.get (h : Sp w0 w (i :: L)) : ∃ F, i.p w F := by
  obtain ⟨F, h1, _⟩ := h.turn
  exact ⟨F, h1⟩
end
def rowOf (v : Value) : Option Nat := match v with | .slice (some a) _ _ => some a.block | _ => none
def Recs (w : World) (v : Value) (l : List ByteArray) : Prop :=
  (v = .slice none 0 0 ∧ l = []) ∨ ∃ g o cap cur, v = .slice (some ⟨g, o, none⟩) l.length cap ∧ w.heap[g]? = some (.cells cur 9 (0, 0)) ∧ l.length ≤ cap ∧ cap ≤ maxLen ∧ o + cap ≤ cur.size ∧
    ∀ j s, l[j]? = some s → cur[o + j]? = some (.string s)
theorem Recs.nil (w : World) : Recs w (.slice none 0 0) [] := .inl ⟨rfl, rfl⟩
theorem Recs.kept {w w' : World} {v : Value} {l : List ByteArray} (h : Recs w v l) (hk : ∀ g, rowOf v = some g → w'.heap[g]? = w.heap[g]?) : Recs w' v l := by
  rcases h with h | ⟨g, o, cap, cur, rfl, h1, h2⟩
  · exact .inl h
  · exact .inr ⟨g, o, cap, cur, rfl, by rw [hk g rfl]; exact h1, h2⟩
theorem Recs.lt {w : World} {v : Value} {l : List ByteArray} (h : Recs w v l) {g : Nat} (hg : rowOf v = some g) : g < w.heap.size := by
  rcases h with ⟨rfl, _⟩ | ⟨g', o, cap, cur, rfl, h1, _⟩
  · cases hg
  · obtain rfl : g' = g := Option.some.inj hg
    exact (Array.getElem?_eq_some_iff.1 h1).1
theorem Recs.shape {w : World} {v : Value} {l : List ByteArray} (h : Recs w v l) : ∃ ad cap, v = .slice ad l.length cap := by
  rcases h with ⟨rfl, rfl⟩ | ⟨g, o, cap, cur, rfl, _⟩
  · exact ⟨_, _, rfl⟩
  · exact ⟨_, _, rfl⟩
def rc (v : Value) (l : List ByteArray) : It where
  p w F := Recs w v l ∧ F = (rowOf v).toList
  kept := fun ⟨h, e⟩ hk => ⟨h.kept (fun g hg => hk g (by rw [e, hg]; simp)), e⟩
  lt := fun ⟨h, e⟩ k hk => h.lt (g := k) (by rw [e] at hk; simpa using hk)
def ch (c : Nat) (st : St) : It where
  p w F := Rep w c F st
  kept := fun h hk => h.kept hk
  lt := fun h => h.lt
theorem infoStr : (Tryz.prog.info? 9).map (fun i => (i.zero, i.size, i.bytes)) = some (some (.string ⟨#[]⟩), 1, 16) := by kernel_rfl
theorem strs_get (l : List ByteArray) (j : Nat) : (l.map Value.string)[j]? = (l[j]?).map Value.string := by simp
theorem append_recs {w : World} {v : Value} {l : List ByteArray} (h : Recs w v l) (hl : l.length ≤ 2000000) (ad : Addr) (c : Nat) (s : ByteArray) (hs : w.cell? ad = some (.string s)) (ty : TypeId) :
    ∃ v' w', (Builtin.append_ #[93, 93] ty #[v, .slice (some ad) 1 c]).run Tryz.prog w = .ok v' w' ∧ Recs w' v' (l ++ [s]) ∧ w.grownBy w' (rowOf v) ∧ (rowOf v' = rowOf v ∨ rowOf v' = some w.heap.size) := by
  obtain ⟨i0, hi, hz0, hz1, hz2⟩ := info_parts infoStr
  have ht : Tryz.prog.underlying 93 = some (.slice 9) := Tryz.underlying93
  have hnews : ∀ j u, [Value.string s][j]? = some u → w.cell? (ad.add j) = some u := by
    intro j u hj
    match j, hj with
    | 0, hj =>
      simp at hj
      subst hj
      simpa [Addr.add] using hs
  have h1 : ∀ u ∈ [Value.string s], u.oneCell' = true := by
    intro u hu
    simp at hu
    subst hu
    rfl
  have hnl : [Value.string s].length = 1 * i0.size := by rw [hz1]; rfl
  have fresh : ∀ (cap : Nat) (zs : Array Value), l.length + 1 ≤ cap → cap ≤ maxLen → zs.size = cap - (l.length + 1) →
      Recs (w.drew.alloc (.cells ((l.map Value.string).toArray ++ #[Value.string s] ++ zs) 9)) (.slice (some ⟨w.heap.size, 0, none⟩) (l.length + 1) cap) (l ++ [s]) := by
    intro cap zs h1 h2 h3
    refine .inr ⟨w.heap.size, 0, cap, (l.map Value.string).toArray ++ #[Value.string s] ++ zs, by simp, heap_alloc_new w.drew _, by simp; omega, h2, ?_, ?_⟩
    · simp only [Array.size_append, List.size_toArray, List.length_map, List.length_cons, List.length_nil, h3]
      omega
    · intro j x hj
      have e1 : ((l.map Value.string).toArray ++ #[Value.string s] ++ zs) = ((l ++ [s]).map Value.string).toArray ++ zs := by simp
      have hj' : j < ((l ++ [s]).map Value.string).toArray.size := by
        have := (List.getElem?_eq_some_iff.1 hj).1
        simpa using this
      rw [Nat.zero_add, e1, Array.getElem?_append_left hj', List.getElem?_toArray, strs_get, hj]
      rfl
  rcases h with ⟨rfl, rfl⟩ | ⟨g, o, cap, cur, rfl, hg, hlc, hcm, hoc, hc⟩
  · have hr := run_append_nil (P := Tryz.prog) w 93 ty 9 i0 (.string ⟨#[]⟩) ht hi hz0 ad 1 c [Value.string s] hnl hnews (by omega) (by omega) (by rw [hz2]; omega)
    refine ⟨_, _, hr, ?_, ⟨rfl, rfl, rfl, by simp, fun k hk _ => Below.heap_alloc w.drew _ k hk⟩, .inr rfl⟩
    have hge := grownCap_ge w 1 0 9
    have hcm := grownCap_le_maxLen w 1 0 9 (by unfold maxLen; omega)
    have := fresh (grownCap w 1 0 9) (Builtin.zeroCells (Value.string ⟨#[]⟩).cells (grownCap w 1 0 9 - 1)) hge hcm (by rw [size_zeroCells]; simp [Value.cells])
    simpa using this
  · by_cases hroom : l.length + 1 ≤ cap
    · have hf := run_firstCells_some (P := Tryz.prog) w i0.size 1 ad 1 c [Value.string s] hnl hnews
      have hst := run_storeCells_at Tryz.prog g (o + l.length) 9 [Value.string s] 0 cur w hg (by simp; omega) h1
      simp only [Nat.add_zero] at hst
      refine ⟨.slice (some ⟨g, o, none⟩) (l.length + 1) cap, w.setRow g (cur.toList.take (o + l.length) ++ [Value.string s] ++ cur.toList.drop (o + l.length + [Value.string s].length)).toArray, ?_, ?_, ⟨rfl, rfl, rfl, by simp, fun k _ hk => setRow_other w g k _ (fun e => hk (by rw [e]; rfl))⟩, .inl rfl⟩
      · simp [Builtin.append_, run_underlying ht, sizeOf, typeInfo, hi, hz1, Builtin.lenOf, hroom, Addr.add_lit]
        rw [hz1] at hf
        rw [hf]
        simp [hst]
      · refine .inr ⟨g, o, cap, _, by simp, setRow_heap w g cur _ 9 _ hg, by simp; omega, hcm, ?_, ?_⟩
        · simp only [List.size_toArray, List.length_append, List.length_take, List.length_drop, Array.length_toList, List.length_singleton]
          omega
        · intro j x hj
          have hjl := (List.getElem?_eq_some_iff.1 hj).1
          simp only [List.length_append, List.length_singleton] at hjl
          rw [List.getElem?_toArray]
          have hcl : cur.toList.length = cur.size := Array.length_toList
          have e1 : (cur.toList.take (o + l.length)).length = o + l.length := by rw [List.length_take, hcl]; omega
          by_cases hj1 : j < l.length
          · rw [List.append_assoc, List.getElem?_append_left (by rw [e1]; omega), List.getElem?_take, if_pos (by omega)]
            rw [List.getElem?_append_left hj1] at hj
            simpa using hc j x hj
          · obtain rfl : j = l.length := by omega
            rw [List.append_assoc, List.getElem?_append_right (by rw [e1]; omega), e1, Nat.sub_self]
            rw [List.getElem?_append_right (Nat.le_refl _), Nat.sub_self] at hj
            simp at hj
            subst hj
            simp
    · have hlen : (l.map Value.string).length = l.length * i0.size := by rw [hz1]; simp
      have holds : ∀ j u, (l.map Value.string)[j]? = some u → w.cell? ((⟨g, o, none⟩ : Addr).add j) = some u := by
        intro j u hj
        rw [strs_get] at hj
        obtain ⟨x, hx, rfl⟩ := Option.map_eq_some_iff.1 hj
        rw [Addr.add_lit, cell_of_row w g (o + j) cur _ (0, 0) hg]
        exact hc j x hx
      have hr := run_append_grow (P := Tryz.prog) w 93 ty 9 i0 (.string ⟨#[]⟩) ht hi hz0 ⟨g, o, none⟩ l.length cap (l.map Value.string) hlen holds ad 1 c [Value.string s] hnl hnews (by omega) (by omega) (growslice_fits (by omega) (by rw [hz2]; omega))
      refine ⟨_, _, hr, ?_, ⟨rfl, rfl, rfl, by simp, fun k hk _ => Below.heap_alloc w.drew _ k hk⟩, .inr rfl⟩
      have hge := grownCap_ge w (l.length + 1) cap 9
      have hcm := grownCap_le_maxLen w (l.length + 1) cap 9 (by unfold maxLen; omega)
      exact fresh (grownCap w (l.length + 1) cap 9) (Builtin.zeroCells (Value.string ⟨#[]⟩).cells (grownCap w (l.length + 1) cap 9 - (l.length + 1))) hge hcm (by rw [size_zeroCells]; simp [Value.cells])
theorem wpList_append_recs {ops : Array Oper} {rest : List Oper} {o : Oper} {a : Act} {Q : Exit → Act → World → Prop} {w : World} (hgd : o.guard = none) (sl x : Operand)
    (ho : o.op = .call { callee := .builtin .append, args := #[sl, x], argTypes := #[93, 93] }) (v : Value) (l : List ByteArray) (hs : a.eval sl = v) (h : Recs w v l) (hl : l.length ≤ 2000000)
    (ad : Addr) (c : Nat) (s : ByteArray) (hx : a.eval x = .slice (some ad) 1 c) (hc : w.cell? ad = some (.string s))
    (k : ∀ v' w', Recs w' v' (l ++ [s]) → w.grownBy w' (rowOf v) → (rowOf v' = rowOf v ∨ rowOf v' = some w.heap.size) → wpList Tryz.prog ops Q rest (a.put o.dst v') w') : wpList Tryz.prog ops Q (o :: rest) a w := by
  obtain ⟨v', w', hr, h2, h3, h4⟩ := append_recs h hl ad c s hc o.type
  exact Lib.wpList_append_run_sl w hgd sl x 93 ho v _ hs hx hr (k v' w' h2 h3 h4)
end Go.Proofs.YtaacdggjkfmehaaGreatDoor
namespace Go.Proofs.YtaacdggjkfmehaaGreatDoor
open Go.RowKit Go.Maps Go.Proofs.MapD Go.Proofs.Chest
structure Jr where
  first : ByteArray
  recs : List ByteArray
  long : Nat
  down : Bool
def JCells (w : World) (j c : Nat) (v : Value) (r : Jr) : Prop :=
  (w.cell? ⟨j, 0, none⟩ = some (.pointer (some ⟨c, 0, none⟩)) ∧ w.cell? ⟨j, 1, none⟩ = some (.string r.first) ∧ w.cell? ⟨j, 2, none⟩ = some v ∧ w.cell? ⟨j, 3, none⟩ = some (.int .i64 r.long) ∧ w.cell? ⟨j, 4, none⟩ = some (.bool r.down)) ∧
    (w.frozen? ⟨j, 0, none⟩ = false ∧ w.frozen? ⟨j, 1, none⟩ = false ∧ w.frozen? ⟨j, 2, none⟩ = false ∧ w.frozen? ⟨j, 3, none⟩ = false ∧ w.frozen? ⟨j, 4, none⟩ = false)
theorem JCells.kept {w w' : World} {j c : Nat} {v : Value} {r : Jr} (h : JCells w j c v r) (e : w'.heap[j]? = w.heap[j]?) : JCells w' j c v r := by
  obtain ⟨⟨h0, h1, h2, h3, h4⟩, z0, z1, z2, z3, z4⟩ := h
  have k := cell_of_block e
  have f := frozen_of_block e
  exact ⟨⟨by rw [k]; exact h0, by rw [k]; exact h1, by rw [k]; exact h2, by rw [k]; exact h3, by rw [k]; exact h4⟩, by rw [f]; exact z0, by rw [f]; exact z1, by rw [f]; exact z2, by rw [f]; exact z3, by rw [f]; exact z4⟩
theorem JCells.lt {w : World} {j c : Nat} {v : Value} {r : Jr} (h : JCells w j c v r) : j < w.heap.size := World.block_lt_of_cell? w _ h.1.1
def JRep (w : World) (c j : Nat) (G : List Nat) (r : Jr) : Prop := ∃ v, JCells w j c v r ∧ Recs w v r.recs ∧ rowOf v ≠ some j ∧ G = j :: (rowOf v).toList
theorem JRep.kept {w w' : World} {c j : Nat} {G : List Nat} {r : Jr} (h : JRep w c j G r) (hk : ∀ k ∈ G, w'.heap[k]? = w.heap[k]?) : JRep w' c j G r := by
  obtain ⟨v, h1, h2, h3, rfl⟩ := h
  exact ⟨v, h1.kept (hk j (by simp)), h2.kept (fun g hg => hk g (by simp [hg])), h3, rfl⟩
theorem JRep.lt {w : World} {c j : Nat} {G : List Nat} {r : Jr} (h : JRep w c j G r) : ∀ k ∈ G, k < w.heap.size := by
  obtain ⟨v, h1, h2, h3, rfl⟩ := h
  intro k hk
  rcases List.mem_cons.1 hk with rfl | hk
  · exact h1.lt
  · exact h2.lt (g := k) (by simpa using hk)
def JC (w : World) (c j : Nat) (st : St) (r : Jr) (H : List Nat) : Prop := ∃ F G, H = F ++ G ∧ (∀ k ∈ F, k ∉ G) ∧ Rep w c F st ∧ JRep w c j G r
theorem JC.kept {w w' : World} {c j : Nat} {st : St} {r : Jr} {H : List Nat} (h : JC w c j st r H) (hk : ∀ k ∈ H, w'.heap[k]? = w.heap[k]?) : JC w' c j st r H := by
  obtain ⟨F, G, rfl, h1, h2, h3⟩ := h
  exact ⟨F, G, rfl, h1, h2.kept (fun k hm => hk k (by simp [hm])), h3.kept (fun k hm => hk k (by simp [hm]))⟩
theorem JC.lt {w : World} {c j : Nat} {st : St} {r : Jr} {H : List Nat} (h : JC w c j st r H) : ∀ k ∈ H, k < w.heap.size := by
  obtain ⟨F, G, rfl, h1, h2, h3⟩ := h
  intro k hk
  rcases List.mem_append.1 hk with hk | hk
  · exact h2.lt k hk
  · exact h3.lt k hk
def jc (c j : Nat) (st : St) (r : Jr) : It where
  p w H := JC w c j st r H
  kept := fun h hk => h.kept hk
  lt := fun h => h.lt
def JTurns (w : World) (c j : Nat) (H : List Nat) (st : St) (r : Jr) (w' : World) : Prop := ∃ H', JC w' c j st r H' ∧ (∀ k ∈ H', k ∈ H ∨ w.heap.size ≤ k) ∧ Only H w w'
theorem Turns.next {w w1 w2 : World} {c : Nat} {F F1 : List Nat} {st : St} (h1 : ∀ k ∈ F1, k ∈ F ∨ w.heap.size ≤ k) (h2 : Only F w w1) (h3 : Turns w1 c F1 st w2) : Turns w c F st w2 := by
  obtain ⟨F2, h4, h5, h6⟩ := h3
  have := h2.size
  refine ⟨F2, h4, fun k hk => ?_, h2.trans h6 h1⟩
  rcases h5 k hk with h | h
  · exact h1 k h
  · exact .inr (by omega)
theorem Turns.below {w w1 w2 : World} {c : Nat} {F : List Nat} {st : St} (h : Below w.heap.size w w1) (h3 : Turns w1 c F st w2) : Turns w c F st w2 :=
  Turns.next (fun _ hk => .inl hk) (Only.of_below h F) h3
theorem Turns.more {w w1 w2 : World} {c : Nat} {F : List Nat} {st : St} (h3 : Turns w c F st w1) (h : Below w1.heap.size w1 w2) : Turns w c F st w2 := by
  obtain ⟨F2, h4, h5, h6⟩ := h3
  exact ⟨F2, h4.below h, h5, h6.trans (Only.of_below h []) (by simp)⟩
def nLOG : ByteArray := ⟨#[76, 79, 71]⟩
def nNEW : ByteArray := ⟨#[78, 69, 87]⟩
def nOLD : ByteArray := ⟨#[79, 76, 68]⟩
theorem ok_LOG : okName nLOG = true := by kernel_rfl
theorem ok_NEW : okName nNEW = true := by kernel_rfl
theorem ok_OLD : okName nOLD = true := by kernel_rfl
def wrS (st : St) (n t : ByteArray) (press : Bool) : Int × St :=
  if (write st n t).1 ≠ 0 ∨ press = false then write st n t else Chest.press (write st n t).2 n
def asideS (st : St) : St := (call st nNEW nOLD).2
theorem aside_err (st : St) : (call st nNEW nOLD).1 = 0 ∨ (call st nNEW nOLD).1 = 6 := by
  unfold call
  rw [if_neg (by rw [ok_OLD]; decide)]
  split
  · exact .inr rfl
  · split
    · exact .inl rfl
    · exact .inl rfl
def openS (st : St) : Int × St × Jr :=
  match get (asideS st).l nLOG with
  | none => ((wrS (asideS st) nLOG (leafS ⟨#[]⟩) true).1, (wrS (asideS st) nLOG (leafS ⟨#[]⟩) true).2, ⟨⟨#[]⟩, [], (leafS ⟨#[]⟩).size, false⟩)
  | some r =>
    if (walkS r.t.size r.t).2.2 ≠ 0 then ((walkS r.t.size r.t).2.2, asideS st, ⟨⟨#[]⟩, [], 0, false⟩) else
      match (walkS r.t.size r.t).1 with
      | [] => (3, asideS st, ⟨⟨#[]⟩, [], 0, false⟩)
      | f :: l => (0, if (walkS r.t.size r.t).2.1 < r.t.size then (cut (asideS st) nLOG ((walkS r.t.size r.t).2.1 : Nat)).2 else asideS st, ⟨f, l, (walkS r.t.size r.t).2.1, false⟩)
def addS (st : St) (r : Jr) (s : ByteArray) (press : Bool) : Int × St × Jr :=
  if r.down = true then (7, st, r) else if 400000 < s.size then (1, st, r) else
    if (wrS st nLOG (leafS s) press).1 ≠ 0 then ((wrS st nLOG (leafS s) press).1, (wrS st nLOG (leafS s) press).2, ⟨r.first, r.recs, r.long, true⟩)
    else (0, (wrS st nLOG (leafS s) press).2, ⟨r.first, r.recs ++ [s], r.long + (leafS s).size, false⟩)
def replS (st : St) (t : ByteArray) : Int × St :=
  if (wrS (asideS st) nNEW t true).1 ≠ 0 then wrS (asideS st) nNEW t true else call (wrS (asideS st) nNEW t true).2 nNEW nLOG
def layS (st : St) (r : Jr) (s : ByteArray) : Int × St × Jr :=
  if r.down = true then (7, st, r) else if 400000 < s.size then (1, st, r) else
    if (replS st (leafS s)).1 ≠ 0 then ((replS st (leafS s)).1, (replS st (leafS s)).2, ⟨r.first, r.recs, r.long, true⟩)
    else (0, (replS st (leafS s)).2, ⟨s, [], (leafS s).size, false⟩)
theorem len_wr (st : St) (n t : ByteArray) (p : Bool) : (wrS st n t p).2.l.length ≤ st.l.length + 1 := by
  unfold wrS
  split
  · exact len_write st n t
  · rw [len_press]; exact len_write st n t
theorem len_aside (st : St) : (asideS st).l.length ≤ st.l.length + 1 := len_call st nNEW nOLD
end Go.Proofs.YtaacdggjkfmehaaGreatDoor
namespace Go.Proofs.YtaacdggjkfmehaaGreatDoor
open Go.RowKit Go.Proofs.Flo Go.Proofs.Cpl
theorem fk_n2 : fk 0 2 = 4611686018427387904 := by decide
theorem fk_n4 : fk 0 4 = 4616189618054758400 := by decide
theorem fk_n7 : fk 0 7 = 4619567317775286272 := by decide
theorem fk_n22 : fk 0 22 = 4626885667169763328 := by decide
theorem fk_n255 : fk 0 255 = 4643176031446892544 := by decide
theorem fk_n65514 : fk 0 65514 = 4679236989180968960 := by decide
theorem fk_n65517 : fk 0 65517 = 4679237401497829376 := by decide
theorem mul_b (w : World) : Calls Tryz.prog 132 #[.complex .f64 4611686018427387904 4613937818241073152, .complex .f64 4616189618054758400 4617315517961601024] w fun e w' => e = .returned (.complex .f64 4679236989180968960 4626885667169763328) ∧ w = w' := by
  have h := mul_gc (2, 3) (4, 5) (by unfold Ok; decide) (by unfold Ok; decide) w
  rw [show gmul (2, 3) (4, 5) = (65514, 22) from by decide] at h
  simp only [fk_n2, fk_three, fk_n4, fk_five, fk_n65514, fk_n22] at h
  exact h
def TX : ByteArray := ⟨#[48, 48, 48, 55, 48, 48, 102, 102]⟩
theorem text_b (w : World) (h : LibAt w) : Calls Tryz.prog 107 #[.complex .f64 4619567317775286272 4643176031446892544] w fun e w' => e = .returned (.string TX) ∧ Below w.heap.size w w' := by
  have h := gtext (7, 255) (by unfold Ok; decide) w h.1
  simp only [fk_n7, fk_n255] at h
  exact h
theorem read_b (w : World) (h : LibAt w) : Calls Tryz.prog 105 #[.string TX] w fun e w' => e = .returned (.tuple #[.complex .f64 4619567317775286272 4643176031446892544, .bool true]) ∧ Below w.heap.size w w' := by
  have h := gread_yes TX (7, 255) ⟨by unfold Ok; decide, rfl⟩ w h.1 h.2.1
  simp only [fk_n7, fk_n255] at h
  exact h
theorem mark_a (w : World) : Calls Tryz.prog 108 #[.slice none 0 0] w fun e w' => e = .returned (.complex .f64 0 4607182418800017408) ∧ w = w' := by
  have h := mark_nil w
  unfold gc at h
  simp only [fk_zero, fk_one] at h
  exact h
theorem mark_b (b cap : Nat) (w : World) (hc : w.cell? ⟨b, 0, none⟩ = some (.int .u8 0)) : Calls Tryz.prog 108 #[.slice (some ⟨b, 0, none⟩) 1 cap] w fun e w' => e = .returned (.complex .f64 4679237401497829376 4613937818241073152) ∧ w = w' := by
  have h := mark_gc b 0 cap [0] (by unfold maxLen; decide) w (fun i hi => by
    have : i = 0 := by simp at hi; exact hi
    subst this
    exact hc)
  rw [show gon (0, 1) [0] = (65517, 3) from by decide] at h
  unfold gc at h
  simp only [fk_n65517, fk_three] at h
  exact h
theorem bl_wf : BL.wf := by unfold BL F.wf; simp [F.wf]
theorem put_b (b cap : Nat) (w : World) (h : LibAt w) (hr : RepF w b 0 BL) : Calls Tryz.prog 88 #[.agg #[.int .i64 3, .int .i64 0, .string ⟨#[]⟩, .slice (some ⟨b, 0, none⟩) 2 cap]] w fun e w' => e = .returned (.string BT) ∧ Below w.heap.size w w' := by
  have h := Put_p 3 0 ⟨#[]⟩ BL (some ⟨b, 0, none⟩) cap w h.2.2.2 (by decide) bl_wf (.inr ⟨b, 0, rfl, hr⟩)
  rw [bl_put] at h
  exact h
theorem get_b1 (w : World) (h : LibAt w) : Calls Tryz.prog 94 #[.string (BT ++ ⟨#[122]⟩)] w fun e w' => Below w.heap.size w w' ∧ ∃ x o cap, e = .returned (.tuple #[.agg #[.int .i64 3, .int .i64 0, .string ⟨#[]⟩, .slice (some ⟨x, o, none⟩) 2 cap], .int .i64 14, .int .i64 0]) ∧ RepA w' (fun b => w.heap.size ≤ b) x o BL := by
  have h := Get_p (BT ++ ⟨#[122]⟩) w (by decide) h
  rw [get_t] at h
  refine h.mono ?_
  rintro e w' ⟨hb, ad, cap, rfl, hg⟩
  rcases hg with h0 | ⟨x, o, he, hg⟩
  · cases h0
  · subst he
    exact ⟨hb, x, o, _, rfl, hg⟩
theorem get_b2 (w : World) (h : LibAt w) : Calls Tryz.prog 94 #[.string (BT.extract 0 4)] w fun e w' => e = .returned (.tuple #[.agg #[.int .i64 0, .int .i64 0, .string ⟨#[]⟩, .slice none 0 0], .int .i64 0, .int .i64 2]) ∧ Below w.heap.size w w' := by
  have h := Get_p (BT.extract 0 4) w (by decide) h
  rw [get_m] at h
  exact h.mono fun _ _ h => ⟨h.2, h.1⟩
theorem get_b3 (w : World) (h : LibAt w) : Calls Tryz.prog 94 #[.string ⟨#[120]⟩] w fun e w' => e = .returned (.tuple #[.agg #[.int .i64 0, .int .i64 0, .string ⟨#[]⟩, .slice none 0 0], .int .i64 0, .int .i64 1]) ∧ Below w.heap.size w w' := by
  have h := Get_p ⟨#[120]⟩ w (by decide) h
  rw [get_x] at h
  exact h.mono fun _ _ h => ⟨h.2, h.1⟩
theorem bt_size : BT.size = 14 := rfl
theorem bt_list : BT.toList = [49, 48, 58, 50, 58, 45, 53, 35, 50, 58, 97, 98, 44, 93] := by rw [ByteArray.toList_eq]; rfl
theorem tx_list : TX.toList = [48, 48, 48, 55, 48, 48, 102, 102] := by rw [ByteArray.toList_eq]; rfl
def VAt (b y oy cy : Nat) (w : World) : Prop :=
  w.cell? ⟨b, 0, none⟩ = some (.int .i64 3) ∧ w.cell? ⟨b, 1, none⟩ = some (.int .i64 0) ∧ w.cell? ⟨b, 2, none⟩ = some (.string ⟨#[]⟩) ∧ w.cell? ⟨b, 3, none⟩ = some (.slice (some ⟨y, oy, none⟩) 2 cy) ∧ RepF w y oy BL ∧ (∃ cur t, w.heap[y]? = some (.cells cur t (0, 0)))
theorem heap_lt {w : World} {b : Nat} {o : Obj} (h : w.heap[b]? = some o) : b < w.heap.size := by
  rcases Nat.lt_or_ge b w.heap.size with h1 | h1
  · exact h1
  · rw [Array.getElem?_eq_none h1] at h
    cases h
theorem VAt.below {b y oy cy : Nat} {w w' : World} (h : VAt b y oy cy w) (hb : Below w.heap.size w w') : VAt b y oy cy w' := by
  obtain ⟨h0, h1, h2, h3, h4, cur, t, h5⟩ := h
  exact ⟨cell_kept hb (Nat.le_refl _) h0, cell_kept hb (Nat.le_refl _) h1, cell_kept hb (Nat.le_refl _) h2, cell_kept hb (Nat.le_refl _) h3, RepF.kept hb (Nat.le_refl _) _ _ _ h4, cur, t, by rw [hb.block _ (heap_lt h5)]; exact h5⟩
theorem bl_two {w : World} {b o : Nat} (h : RepF w b o BL) (hc : ∃ cur t, w.heap[b]? = some (.cells cur t (0, 0))) : Two w b o := by
  obtain ⟨h0, h1, h2, ⟨a, c, h3, _⟩, h4, h5, h6, ⟨a', c', h7, _⟩, _⟩ := h
  exact ⟨h0, h1, h2, ⟨a, c, h3⟩, h4, h5, h6, ⟨a', c', h7⟩, hc⟩
theorem v_start (w : World) : VAt (w.heap.size + 1) w.heap.size 0 2 ((w.alloc (.cells #[.int .i64 1, .int .i64 (-5), .string ⟨#[]⟩, .slice none 0 0, .int .i64 2, .int .i64 0, .string ⟨#[97, 98]⟩, .slice none 0 0] 121)).alloc (.cells #[.int .i64 3, .int .i64 0, .string ⟨#[]⟩, .slice (some ⟨w.heap.size, 0, none⟩) 2 2] 121)) := by
  refine ⟨?_, ?_, ?_, ?_, ?_, ?_⟩
  · go_simp
  · go_simp
  · go_simp
  · go_simp
  · unfold BL RepF RepF RepF
    refine ⟨?_, ?_, ?_, ⟨none, 0, ?_, .inl rfl⟩, ?_, ?_, ?_, ⟨none, 0, ?_, .inl rfl⟩, trivial⟩ <;> ((try simp only [F.len]); go_simp)
  · exact ⟨#[.int .i64 1, .int .i64 (-5), .string ⟨#[]⟩, .slice none 0 0, .int .i64 2, .int .i64 0, .string ⟨#[97, 98]⟩, .slice none 0 0], 121, ((Below.alloc (Below.refl (w.alloc (.cells #[.int .i64 1, .int .i64 (-5), .string ⟨#[]⟩, .slice none 0 0, .int .i64 2, .int .i64 0, .string ⟨#[97, 98]⟩, .slice none 0 0] 121)).heap.size _) (Nat.le_refl _) _).block _ (by simp)).trans (heap_alloc_new w _)⟩
theorem v_made {w : World} {x o cap : Nat} {A : Nat → Prop} (hx : RepA w A x o BL) : VAt w.heap.size x o cap (w.alloc (.cells #[.int .i64 3, .int .i64 0, .string ⟨#[]⟩, .slice (some ⟨x, o, none⟩) 2 cap] 121)) := by
  have hb : Below w.heap.size w (w.alloc (.cells #[.int .i64 3, .int .i64 0, .string ⟨#[]⟩, .slice (some ⟨x, o, none⟩) 2 cap] 121)) := (Below.refl _ _).alloc (Nat.le_refl _) _
  obtain ⟨cur, t, hc⟩ := hx.1.2
  refine ⟨?_, ?_, ?_, ?_, RepF.kept hb (Nat.le_refl _) _ _ _ hx.repF, cur, t, by rw [hb.block _ (heap_lt hc)]; exact hc⟩
  · go_simp
  · go_simp
  · go_simp
  · go_simp
set_option maxRecDepth 100000 in
set_option maxHeartbeats 4000000 in
theorem begun_true : BegunTrue := by
  intro w hL
  have HL := Lib.hid hL
  have q1 := bt_size
  have q2 := bt_list
  have q3 := tx_list
  clear hL
  go_enter Tryz.func122, Tryz.ntmps122
  go_wp2_with fail
  refine (mul_b _).mono ?_
  rintro _ w' ⟨rfl, rfl⟩
  go_wp2_with fail
  have hb1 : Below w.heap.size w ((w.alloc (.cells #[.int .i64 1, .int .i64 (-5), .string ⟨#[]⟩, .slice none 0 0, .int .i64 2, .int .i64 0, .string ⟨#[97, 98]⟩, .slice none 0 0] 121)).alloc (.cells #[.int .i64 3, .int .i64 0, .string ⟨#[]⟩, .slice (some ⟨w.heap.size, 0, none⟩) 2 2] 121)) := ((Below.refl _ _).alloc (Nat.le_refl _) _).alloc (by simp) _
  have hv1 := v_start w
  refine (put_b w.heap.size 2 _ (HL.out.below hb1) hv1.2.2.2.2.1).mono ?_
  rintro _ w1 ⟨rfl, hc⟩
  have HV1 := Lib.hid (hv1.below hc)
  have HB1 := Lib.hid (hb1.trans (hc.mono hb1.size))
  clear hb1 hv1 hc
  go_wp2_with fail
  refine (get_b1 _ (HL.out.below HB1.out)).mono ?_
  rintro _ w2 ⟨hc, x, o, cap, rfl, hx⟩
  have hxge : w1.heap.size ≤ x := hx.1.1
  have hb2 : Below w.heap.size w (w2.alloc (.cells #[.int .i64 3, .int .i64 0, .string ⟨#[]⟩, .slice (some ⟨x, o, none⟩) 2 cap] 121)) := (HB1.out.trans (hc.mono HB1.out.size)).alloc (Nat.le_trans HB1.out.size hc.size) _
  have HX2 := Lib.hid (v_made (cap := cap) hx)
  have HV2 : Hid (VAt (w.heap.size + 1) w.heap.size 0 2 (w2.alloc (.cells #[.int .i64 3, .int .i64 0, .string ⟨#[]⟩, .slice (some ⟨x, o, none⟩) 2 cap] 121))) := Lib.hid (HV1.out.below (hc.alloc hc.size _))
  have HB2 := Lib.hid hb2
  have HW1 : Hid (w.heap.size < w1.heap.size) := Lib.hid (by have := heap_lt HV1.out.2.2.2.2.2.choose_spec.choose_spec; exact this)
  clear hc hx hb2
  go_wp2_with fail
  refine (get_b2 _ (HL.out.below HB2.out)).mono ?_
  rintro _ w3 ⟨rfl, hc⟩
  have hc3 := hc.alloc hc.size (.cells #[.int .i64 0, .int .i64 0, .string ⟨#[]⟩, .slice none 0 0] 121)
  have HX3 := Lib.hid (HX2.out.below hc3)
  have HV3 := Lib.hid (HV2.out.below hc3)
  have HB3 := Lib.hid (HB2.out.trans (hc3.mono HB2.out.size))
  clear hc hc3
  go_wp2_with fail
  refine (get_b3 _ (HL.out.below HB3.out)).mono ?_
  rintro _ w4 ⟨rfl, hc⟩
  have hc4 := hc.alloc hc.size (.cells #[.int .i64 0, .int .i64 0, .string ⟨#[]⟩, .slice none 0 0] 121)
  have HX4 := Lib.hid (HX3.out.below hc4)
  have HV4 := Lib.hid (HV3.out.below hc4)
  have HB4 := Lib.hid (HB3.out.trans (hc4.mono HB3.out.size))
  clear hc hc4
  go_wp2_with fail
  refine (text_b _ (HL.out.below HB4.out)).mono ?_
  rintro _ w5 ⟨rfl, hc⟩
  have HX5 := Lib.hid (HX4.out.below hc)
  have HV5 := Lib.hid (HV4.out.below hc)
  have HB5 := Lib.hid (HB4.out.trans (hc.mono HB4.out.size))
  clear hc
  go_wp2_with fail
  refine (read_b _ (HL.out.below HB5.out)).mono ?_
  rintro _ w6 ⟨rfl, hc⟩
  have HX6 := Lib.hid (HX5.out.below hc)
  have HV6 := Lib.hid (HV5.out.below hc)
  have HB6 := Lib.hid (HB5.out.trans (hc.mono HB5.out.size))
  clear hc
  have s1 : (FloatKind.f64.format.order 4679236989180968960 4679236989180968960 == some .eq) = true := by decide
  have s2 : (FloatKind.f64.format.order 4626885667169763328 4626885667169763328 == some .eq) = true := by decide
  have s3 : (FloatKind.f64.format.order 0 0 == some .eq) = true := by decide
  have s4 : (FloatKind.f64.format.order 4607182418800017408 4607182418800017408 == some .eq) = true := by decide
  have s5 : (FloatKind.f64.format.order 4679237401497829376 4679237401497829376 == some .eq) = true := by decide
  have s6 : (FloatKind.f64.format.order 4613937818241073152 4613937818241073152 == some .eq) = true := by decide
  have s7 : (FloatKind.f64.format.order 4619567317775286272 4619567317775286272 == some .eq) = true := by decide
  have s8 : (FloatKind.f64.format.order 4643176031446892544 4643176031446892544 == some .eq) = true := by decide
  go_wp2_with fail
  refine (mark_a _).mono ?_
  rintro _ w' ⟨rfl, rfl⟩
  go_wp2_with fail
  refine (mark_b _ _ _ (by go_simp)).mono ?_
  rintro _ w' ⟨rfl, rfl⟩
  have hc7 : Below w6.heap.size w6 (w6.alloc (.cells #[.int .u8 0] 5)) := (Below.refl _ _).alloc (Nat.le_refl _) _
  have HX7 := Lib.hid (HX6.out.below hc7)
  have HV7 := Lib.hid (HV6.out.below hc7)
  have HB7 := Lib.hid (HB6.out.trans (hc7.mono HB6.out.size))
  clear hc7
  go_wp2_with fail
  refine (text_b _ (HL.out.below HB7.out)).mono ?_
  rintro _ w8 ⟨rfl, hc⟩
  have HX8 := Lib.hid (HX7.out.below hc)
  have HV8 := Lib.hid (HV7.out.below hc)
  have HB8 := Lib.hid (HB7.out.trans (hc.mono HB7.out.size))
  clear hc
  obtain ⟨x0, x1, x2, x3, _, _⟩ := HX8.out
  obtain ⟨v0, v1, v2, v3, _, _⟩ := HV8.out
  go_wp2_with fail
  refine (eq_two x w.heap.size o 0 cap 2 (by have := HW1.out; omega) _ (bl_two HX8.out.2.2.2.2.1 HX8.out.2.2.2.2.2) (bl_two HV8.out.2.2.2.2.1 HV8.out.2.2.2.2.2)).mono ?_
  rintro _ w9 ⟨rfl, hc⟩
  have HB9 := Lib.hid (HB8.out.trans (hc.mono HB8.out.size))
  clear hc x0 x1 x2 x3 v0 v1 v2 v3
  go_wp2_with fail
  go_ret
  exact ⟨rfl, HB9.out⟩
end Go.Proofs.YtaacdggjkfmehaaGreatDoor
namespace Go.Proofs.YtaacdggjkfmehaaGreatDoor
open Go.RowKit Go.Maps Go.Proofs.MapD Go.Proofs.Chest
def BegunTrue3 : Prop := ∀ w, LibAt w → Calls Tryz.prog 96 #[] w fun e w' => e = .returned (.bool true) ∧ Below w.heap.size w w'
theorem begun1_p (w : World) (h : LibAt w) : Calls Tryz.prog 109 #[] w fun e w' => e = .returned (.bool true) ∧ Below w.heap.size w w' := by
  have HB := Lib.hid (begun_true w h)
  clear h
  go_enter Tryz.func109, Tryz.ntmps109
  go_wp2_with (go_at_call 122; refine HB.out.mono ?_; rintro _ w1 ⟨rfl, hb⟩)
  go_ret
  exact ⟨rfl, hb⟩
def nA : ByteArray := ⟨#[65]⟩
def nB : ByteArray := ⟨#[66]⟩
def sXYZ : ByteArray := ⟨#[120, 121, 122]⟩
def sXY : ByteArray := ⟨#[120, 121]⟩
def b1 : St := ⟨47, [(nA, ⟨sXYZ, 0, false⟩)]⟩
def b2 : St := ⟨47, [(nA, ⟨sXYZ, 3, true⟩)]⟩
def b3 : St := ⟨48, [(nA, ⟨sXY, 2, true⟩)]⟩
def b4 : St := ⟨48, [(nB, ⟨sXY, 2, true⟩)]⟩
theorem x_new : (⟨(min (max (50 : Int) 0) 1048576).toNat, []⟩ : St) = ⟨50, []⟩ := by kernel_rfl
theorem x_w1 : write ⟨50, []⟩ ⟨#[65]⟩ ⟨#[120, 121, 122]⟩ = (0, b1) := by kernel_rfl
theorem x_w2 : write b1 ⟨#[97]⟩ ⟨#[]⟩ = (1, b1) := by kernel_rfl
theorem x_t2 : readS (tear b1 2) ⟨#[65]⟩ = (⟨#[120, 121]⟩, true) := by kernel_rfl
theorem x_t0 : readS (tear b1 0) ⟨#[65]⟩ = (⟨#[]⟩, false) := by kernel_rfl
theorem x_p : press b1 ⟨#[65]⟩ = (0, b2) := by kernel_rfl
theorem x_c : cut b2 ⟨#[65]⟩ 2 = (0, b3) := by kernel_rfl
theorem x_k : call b3 ⟨#[65]⟩ ⟨#[66]⟩ = (0, b4) := by kernel_rfl
theorem x_t1 : readS (tear b4 (-1)) ⟨#[66]⟩ = (⟨#[120, 121]⟩, true) := by kernel_rfl
theorem x_pr : pressedS b4 ⟨#[66]⟩ = 2 := by kernel_rfl
def zeros (n : Nat) : ByteArray := ⟨(List.replicate n (0 : UInt8)).toArray⟩
theorem zeros_size (n : Nat) : (zeros n).size = n := by
  show (List.replicate n (0 : UInt8)).toArray.size = n
  simp
theorem x_w3 : write b4 ⟨#[67]⟩ (zeros 49) = (5, b4) := by kernel_rfl
theorem mk_zeros (n : Nat) (hn : n ≤ 100000) (w : World) : (Instr.makeSlice 85 (.int .i64 (n : Int)) (.int .i64 (n : Int))).run Tryz.prog w = .ok (.slice (some ⟨w.heap.size, 0, none⟩) n n) (w.alloc (.cells (madeCells #[.int .u8 0] n) 5)) := by
  obtain ⟨i0, hi, hz0, hz1, hz2⟩ := info_parts infoRU8
  have := run_makeSlice (P := Tryz.prog) (w := w) 85 5 i0 (.int .u8 0) Tryz.underlying85 hi hz0 .i64 .i64 (n : Int) (n : Int) (by omega) (Int.le_refl _) (by rw [hz1]; omega) (by rw [hz2]; omega) (by omega)
  rw [hz1, Nat.mul_one] at this
  simpa [Value.cells] using this
theorem zeros_text (n : Nat) (hn : n ≤ 100000) (w : World) : Text (w.alloc (.cells (madeCells #[.int .u8 0] n) 5)) (.slice (some ⟨w.heap.size, 0, none⟩) n n) (zeros n) := by
  have hs := zeros_size n
  refine ⟨by rw [Lib.strCells_length, Nat.mul_one], .inr ⟨w.heap.size, n, madeCells #[.int .u8 0] n, by rw [hs], Nat.zero_le _, heap_alloc_new w _, by omega, by unfold maxLen; omega, by rw [size_madeCells, Nat.mul_one], ?_⟩⟩
  rw [toList_madeCells_one, hs, Nat.mul_one, List.take_of_length_le (by simp)]
  unfold Lib.strCells zeros
  simp
theorem zeros_conv (n : Nat) (hn : n ≤ 100000) (w : World) : (convert 85 9 (.slice (some ⟨w.heap.size, 0, none⟩) n n)).run Tryz.prog (w.alloc (.cells (madeCells #[.int .u8 0] n) 5)) = .ok (.string (zeros n)) (w.alloc (.cells (madeCells #[.int .u8 0] n) 5)) := by
  have := text_conv (zeros_text n hn w)
  exact this
theorem xy_list : (⟨#[120, 121]⟩ : ByteArray).toList = [120, 121] := by rw [ByteArray.toList_eq]
set_option maxRecDepth 100000 in
set_option maxHeartbeats 4000000 in
theorem begun3_true : BegunTrue3 := by
  intro w hL
  have HL := Lib.hid hL
  have q1 := xy_list
  clear hL
  go_enter Tryz.func96, Tryz.ntmps96
  go_wp2_with fail
  refine (new_c 50 (Below.refl _ w)).mono ?_
  rintro _ w1 ⟨c, rfl, h1⟩
  rw [x_new] at h1
  have H1 := Lib.hid h1
  clear h1
  go_wp2_with fail
  refine (write_c H1.out (by decide) ⟨#[65]⟩ ⟨#[120, 121, 122]⟩ (by decide)).mono ?_
  rintro _ w2 ⟨rfl, h2⟩
  rw [x_w1] at h2 ⊢
  have H2 := Lib.hid h2
  clear h2
  go_wp2_with fail
  refine (write_c H2.out (by decide) ⟨#[97]⟩ ⟨#[]⟩ (by decide)).mono ?_
  rintro _ w3 ⟨rfl, h3⟩
  rw [x_w2] at h3 ⊢
  have H3 := Lib.hid h3
  clear h3
  go_wp2_with fail
  refine (tear_c H3.out (by decide) 2).mono ?_
  rintro _ w4 ⟨d1, rfl, h4, h4'⟩
  have H4 := Lib.hid h4
  have H4' := Lib.hid h4'
  clear h4 h4'
  go_wp2_with fail
  refine (read_c H4'.out ⟨#[65]⟩ (by decide)).mono ?_
  rintro _ _ ⟨rfl, rfl⟩
  rw [x_t2]
  go_wp2_with fail
  refine (tear_c H4.out (by decide) 0).mono ?_
  rintro _ w5 ⟨d2, rfl, h5, h5'⟩
  have H5 := Lib.hid h5
  have H5' := Lib.hid h5'
  clear h5 h5'
  go_wp2_with fail
  refine (read_c H5'.out ⟨#[65]⟩ (by decide)).mono ?_
  rintro _ _ ⟨rfl, rfl⟩
  rw [x_t0]
  go_wp2_with fail
  refine (press_c H5.out ⟨#[65]⟩ (by decide)).mono ?_
  rintro _ w6 ⟨rfl, h6⟩
  rw [x_p] at h6 ⊢
  have H6 := Lib.hid h6
  clear h6
  go_wp2_with fail
  refine (cut_c H6.out ⟨#[65]⟩ (by decide) 2).mono ?_
  rintro _ w7 ⟨rfl, h7⟩
  rw [x_c] at h7 ⊢
  have H7 := Lib.hid h7
  clear h7
  go_wp2_with fail
  refine (call_c H7.out (by decide) ⟨#[65]⟩ ⟨#[66]⟩ (by decide) (by decide)).mono ?_
  rintro _ w8 ⟨rfl, h8⟩
  rw [x_k] at h8 ⊢
  have H8 := Lib.hid h8
  clear h8
  go_wp2_with fail
  refine (tear_c H8.out (by decide) (-1)).mono ?_
  rintro _ w9 ⟨d3, rfl, h9, h9'⟩
  have H9 := Lib.hid h9
  have H9' := Lib.hid h9'
  clear h9 h9'
  go_wp2_with fail
  refine (read_c H9'.out ⟨#[66]⟩ (by decide)).mono ?_
  rintro _ _ ⟨rfl, rfl⟩
  rw [x_t1]
  go_wp2_with fail
  refine (begun1_p w9 (HL.out.below H9.out.2)).mono ?_
  rintro _ w10 ⟨rfl, hb⟩
  have H10 := Lib.hid (H9.out.below hb)
  clear hb
  go_wp2_with fail
  refine (pressed_c H10.out ⟨#[66]⟩ (by decide)).mono ?_
  rintro _ _ ⟨rfl, rfl⟩
  rw [x_pr]
  go_wp2_with fail
  refine (room_c H10.out).mono ?_
  rintro _ _ ⟨rfl, rfl⟩
  have hmk : ∀ w : World, (Instr.makeSlice 85 (.int .i64 49) (.int .i64 49)).run Tryz.prog w = .ok (.slice (some ⟨w.heap.size, 0, none⟩) 49 49) (w.alloc (.cells (madeCells #[.int .u8 0] 49) 5)) := fun w => mk_zeros 49 (by decide) w
  have hcv := zeros_conv 49 (by decide) w10
  go_wp2_with fail
  have hb11 := (Below.refl w10.heap.size w10).alloc (Nat.le_refl _) (.cells (madeCells #[.int .u8 0] 49) 5)
  refine (write_c (H10.out.below hb11) (by decide) ⟨#[67]⟩ (zeros 49) (by decide)).mono ?_
  rintro _ w11 ⟨rfl, h11⟩
  rw [x_w3] at h11 ⊢
  have H11 := Lib.hid h11
  clear h11 hb11
  go_wp2_with fail
  go_ret
  exact ⟨rfl, H11.out.2⟩
end Go.Proofs.YtaacdggjkfmehaaGreatDoor
namespace Go.Proofs.YtaacdggjkfmehaaGreatDoor
open Go.RowKit Go.Maps Go.Proofs.MapD Go.Proofs.Chest
section
variable {room : Nat} {N : ByteArray} {x : Rl}
theorem one_get : Chest.get [(N, x)] N = some x := by simp [Chest.get]
theorem one_set (y : Rl) : Chest.set [(N, x)] N y = [(N, y)] := by simp [Chest.set]
theorem one_write0 (hN : okName N = true) (s : ByteArray) (hs : s.size ≤ room) : write ⟨room, []⟩ N s = (0, ⟨room - s.size, [(N, ⟨s, 0, false⟩)]⟩) := by
  unfold write
  rw [if_neg (by rw [hN]; decide), if_neg (by simpa using hs)]
  rfl
theorem one_write (hN : okName N = true) (s : ByteArray) (hs : s.size ≤ room) : write ⟨room, [(N, x)]⟩ N s = (0, ⟨room - s.size, [(N, ⟨x.t ++ s, x.p, x.s⟩)]⟩) := by
  unfold write
  rw [if_neg (by rw [hN]; decide), if_neg (by simpa using hs)]
  simp only [one_get, one_set]
theorem one_press : press ⟨room, [(N, x)]⟩ N = (0, ⟨room, [(N, ⟨x.t, x.t.size, true⟩)]⟩) := by
  unfold press
  simp only [one_get, one_set]
theorem one_cut (k : Nat) (hk : k ≤ x.t.size) : cut ⟨room, [(N, x)]⟩ N (k : Int) = (0, ⟨room + (x.t.size - k), [(N, ⟨x.t.extract 0 k, min x.p k, true⟩)]⟩) := by
  unfold cut
  simp only [one_get, one_set]
  rw [if_neg (by omega)]
  rfl
end
end Go.Proofs.YtaacdggjkfmehaaGreatDoor
