/-
  A chest of one roll LOG, plainly: what a journal makes of it.
-/
import Derived.Test.YtaekieoingflaaaGreatDoorJrB
import Derived.Test.YtaekieoingflaaaGreatDoorJrA
import Derived.Test.YtaekieoingflaaaGreatDoorRoll14
import Derived.Test.YtaekieoingflaaaGreatDoorJrD
import Derived.Test.YtaekieoingflaaaGreatDoorJrE
import Derived.Test.YtaekieoingflaaaGreatDoorHex4
import Derived.LoopTactic
namespace Go.Proofs.YtaekieoingflaaaGreatDoor
open Go.RowKit Go.Maps Go.Proofs.MapD Go.Proofs.Chest

def one (room : Nat) (t : ByteArray) (p : Nat) (s : Bool) : St := ⟨room, [(nLOG, ⟨t, p, s⟩)]⟩

theorem log_new : ¬ nLOG = nNEW := by decide
theorem new_log : ¬ nNEW = nLOG := by decide
theorem new_old : ¬ nNEW = nOLD := by decide
theorem log_old : ¬ nLOG = nOLD := by decide

theorem leaf0_size : (leafS ⟨#[]⟩).size = 11 := by
  rw [leafS_size (by decide)]
  have : Lib.nDigits (⟨#[]⟩ : ByteArray).size = 1 := by
    show Lib.nDigits 0 = 1
    exact Lib.nDigits_small (by decide)
  rw [this]
  rfl

theorem aside_none (room : Nat) : asideS ⟨room, []⟩ = ⟨room, []⟩ := by
  unfold asideS call
  rw [if_neg (by rw [ok_OLD]; decide)]
  rfl

theorem aside_one (room : Nat) (t : ByteArray) (p : Nat) (s : Bool) : asideS (one room t p s) = one room t p s := by
  unfold asideS call
  rw [if_neg (by rw [ok_OLD]; decide)]
  have : get (one room t p s).l nNEW = none := by
    unfold one
    simp [Chest.get, log_new]
  rw [this]

theorem wr_none (room : Nat) (t : ByteArray) (h : t.size ≤ room) (press : Bool) : wrS ⟨room, []⟩ nLOG t press = (0, one (room - t.size) t (if press = true then t.size else 0) press) := by
  unfold wrS
  rw [one_write0 ok_LOG t h]
  cases press with
  | false => rw [if_pos (.inr rfl)]; rfl
  | true =>
    rw [if_neg (by simp)]
    simp only
    rw [one_press]
    rfl

theorem wr_one (room : Nat) (t : ByteArray) (p : Nat) (s : Bool) (x : ByteArray) (h : x.size ≤ room) (press : Bool) :
    wrS (one room t p s) nLOG x press = (0, one (room - x.size) (t ++ x) (if press = true then (t ++ x).size else p) (s || press)) := by
  unfold wrS one
  rw [one_write ok_LOG x h]
  cases press with
  | false => rw [if_pos (.inr rfl)]; simp
  | true =>
    rw [if_neg (by simp)]
    simp only
    rw [one_press]
    simp

theorem wr_full (room : Nat) (t : ByteArray) (p : Nat) (s : Bool) (x : ByteArray) (h : room < x.size) (press : Bool) :
    wrS (one room t p s) nLOG x press = (5, one room t p s) := by
  have : write (one room t p s) nLOG x = (5, one room t p s) := by
    unfold write
    rw [if_neg (by rw [ok_LOG]; decide), if_pos (by exact h)]
  unfold wrS
  rw [this, if_pos (.inl (show (5, one room t p s).1 ≠ 0 from (by decide : (5 : Int) ≠ 0)))]

theorem open_none (room : Nat) (h : 11 ≤ room) : openS ⟨room, []⟩ = (0, one (room - 11) (leafS ⟨#[]⟩) 11 true, ⟨⟨#[]⟩, [], 11, false⟩) := by
  unfold openS
  rw [aside_none]
  have : get (⟨room, []⟩ : St).l nLOG = none := rfl
  rw [this]
  simp only
  rw [wr_none room _ (by rw [leaf0_size]; exact h), leaf0_size]
  rfl

/-- Open, of whole leaves with a torn end. -/
theorem open_one (room : Nat) (p : Nat) (s : Bool) (f : ByteArray) (l : List ByteArray) (rest : ByteArray) (hl : ∀ x ∈ f :: l, x.size ≤ 400000) (hr : rest.size = 0 ∨ (turnS rest).2.2 = 2) :
    openS (one room (leavesS (f :: l) ++ rest) p s) = (0, if rest.size = 0 then one room (leavesS (f :: l)) p s else one (room + rest.size) (leavesS (f :: l)) (min p (leavesS (f :: l)).size) true, ⟨f, l, (leavesS (f :: l)).size, false⟩) := by
  have hw := (walk_leaves rest (f :: l) _ hl (Nat.le_refl _)).1 hr
  unfold openS
  rw [aside_one]
  have hg : get (one room (leavesS (f :: l) ++ rest) p s).l nLOG = some ⟨leavesS (f :: l) ++ rest, p, s⟩ := one_get
  rw [hg]
  simp only [hw]
  rw [if_neg (by decide)]
  by_cases h0 : rest.size = 0
  · have : rest = ⟨#[]⟩ := empty_of_size h0
    subst this
    rw [append_none, if_neg (by omega), if_pos h0]
  · rw [if_neg h0, if_pos (by rw [ByteArray.size_append]; omega)]
    unfold one
    rw [one_cut _ (by simp only [ByteArray.size_append]; omega)]
    simp only
    rw [extract_fst _ _ _ (Nat.le_refl _), extract_all, ByteArray.size_append, Nat.add_sub_cancel_left]

/-- Open, of a spoilt end. -/
theorem open_bad (room : Nat) (p : Nat) (s : Bool) (l : List ByteArray) (rest : ByteArray) (hl : ∀ x ∈ l, x.size ≤ 400000) (h0 : rest.size ≠ 0) (hr : (turnS rest).2.2 = 3) :
    (openS (one room (leavesS l ++ rest) p s)).1 = 3 := by
  have hw := (walk_leaves rest l _ hl (Nat.le_refl _)).2 h0 hr
  unfold openS
  rw [aside_one]
  have hg : get (one room (leavesS l ++ rest) p s).l nLOG = some ⟨leavesS l ++ rest, p, s⟩ := one_get
  rw [hg]
  simp only
  rw [if_pos (by rw [hw]; decide)]
  exact hw

/-- Open, of no whole leaf. -/
theorem open_empty (room : Nat) (p : Nat) (s : Bool) (rest : ByteArray) (hr : rest.size = 0 ∨ (turnS rest).2.2 = 2) :
    (openS (one room rest p s)).1 = 3 := by
  have hw := (walk_leaves rest [] _ (by simp) (Nat.le_refl _)).1 hr
  have e0 : leavesS [] ++ rest = rest := by
    show (⟨#[]⟩ : ByteArray) ++ rest = rest
    apply ByteArray.ext
    apply Array.ext'
    rw [append_toList]
    rfl
  rw [e0] at hw
  unfold openS
  rw [aside_one]
  have hg : get (one room rest p s).l nLOG = some ⟨rest, p, s⟩ := one_get
  rw [hg]
  simp only [hw]
  rw [if_neg (by decide)]

theorem add_one (room : Nat) (t : ByteArray) (p : Nat) (s : Bool) (f : ByteArray) (l : List ByteArray) (n : Nat) (x : ByteArray) (hx : x.size ≤ 400000) (h : (leafS x).size ≤ room) (press : Bool) :
    addS (one room t p s) ⟨f, l, n, false⟩ x press = (0, one (room - (leafS x).size) (t ++ leafS x) (if press = true then (t ++ leafS x).size else p) (s || press), ⟨f, l ++ [x], n + (leafS x).size, false⟩) := by
  unfold addS
  rw [if_neg (show ¬ (⟨f, l, n, false⟩ : Jr).down = true from Bool.false_ne_true), if_neg (by omega), wr_one _ _ _ _ _ h]
  rfl

theorem add_full (room : Nat) (t : ByteArray) (p : Nat) (s : Bool) (f : ByteArray) (l : List ByteArray) (n : Nat) (x : ByteArray) (hx : x.size ≤ 400000) (h : room < (leafS x).size) (press : Bool) :
    addS (one room t p s) ⟨f, l, n, false⟩ x press = (5, one room t p s, ⟨f, l, n, true⟩) := by
  unfold addS
  rw [if_neg (show ¬ (⟨f, l, n, false⟩ : Jr).down = true from Bool.false_ne_true), if_neg (by omega), wr_full _ _ _ _ _ h]
  rfl

theorem press_one (room : Nat) (t : ByteArray) (p : Nat) (s : Bool) (f : ByteArray) (l : List ByteArray) (n : Nat) :
    jpressS (one room t p s) ⟨f, l, n, false⟩ = (0, one room t t.size true, ⟨f, l, n, false⟩) := by
  unfold jpressS
  rw [if_neg (show ¬ (⟨f, l, n, false⟩ : Jr).down = true from Bool.false_ne_true)]
  unfold one
  rw [one_press]
  rfl

theorem repl_one (room : Nat) (t : ByteArray) (p : Nat) (s : Bool) (x : ByteArray) (h : x.size ≤ room) : replS (one room t p s) x = (0, one (room - x.size + t.size) x x.size true) := by
  have hw : wrS (one room t p s) nNEW x true = (0, ⟨room - x.size, [(nNEW, ⟨x, x.size, true⟩), (nLOG, ⟨t, p, s⟩)]⟩) := by
    have h1 : write (one room t p s) nNEW x = (0, ⟨room - x.size, [(nNEW, ⟨x, 0, false⟩), (nLOG, ⟨t, p, s⟩)]⟩) := by
      unfold write
      rw [if_neg (by rw [ok_NEW]; decide), if_neg (by simpa [one] using h)]
      have : get (one room t p s).l nNEW = none := by
        unfold one
        simp [Chest.get, log_new]
      rw [this]
      rfl
    unfold wrS
    rw [h1, if_neg (by simp)]
    unfold Chest.press
    simp [Chest.get, Chest.set, log_new]
  unfold replS
  rw [aside_one, hw, if_neg (show ¬ ((0 : Int) ≠ 0) by decide)]
  unfold call
  rw [if_neg (by rw [ok_LOG]; decide)]
  simp only [Chest.get, if_true, new_log, if_false, Chest.del]
  simp [one, log_new]

theorem lay_one (room : Nat) (t : ByteArray) (p : Nat) (s : Bool) (f : ByteArray) (l : List ByteArray) (n : Nat) (x : ByteArray) (hx : x.size ≤ 400000) (h : (leafS x).size ≤ room) :
    layS (one room t p s) ⟨f, l, n, false⟩ x = (0, one (room - (leafS x).size + t.size) (leafS x) (leafS x).size true, ⟨x, [], (leafS x).size, false⟩) := by
  unfold layS
  rw [if_neg (show ¬ (⟨f, l, n, false⟩ : Jr).down = true from Bool.false_ne_true), if_neg (by omega), repl_one _ _ _ _ _ h]
  rfl

theorem tear_one (room : Nat) (t : ByteArray) (p : Nat) (n : Int) : tear (one room t p true) n = one (room + (t.size - stays ⟨t, p, true⟩ n)) (t.extract 0 (stays ⟨t, p, true⟩ n)) (stays ⟨t, p, true⟩ n) true := by
  unfold tear torn one
  simp

/-- Leaves that are cut somewhere: whole ones, and a beginning. -/
theorem leaves_cut : ∀ (l : List ByteArray) (k : Nat), (∀ x ∈ l, x.size ≤ 400000) → k ≤ (leavesS l).size →
    ∃ m rest, m ≤ l.length ∧ (leavesS l).extract 0 k = leavesS (l.take m) ++ rest ∧ (rest.size = 0 ∨ (turnS rest).2.2 = 2) ∧ (leavesS (l.take m)).size + rest.size = k ∧ ∀ i ≤ l.length, ((leavesS (l.take i)).size ≤ k ↔ i ≤ m)
  | [], k, _, hk => by
    have h0 : k = 0 := by
      have : (leavesS []).size = 0 := rfl
      omega
    subst h0
    refine ⟨0, ⟨#[]⟩, Nat.le_refl _, ?_, .inl rfl, rfl, fun i hi => ?_⟩
    · apply ByteArray.ext
      apply Array.ext'
      rw [Lib.extract_data, append_toList]
      rfl
    · obtain rfl : i = 0 := by simpa using hi
      exact ⟨fun _ => Nat.le_refl _, fun _ => Nat.zero_le _⟩
  | s :: l, k, hl, hk => by
    have hs := hl s (by simp)
    have e0 : leavesS (s :: l) = leafS s ++ leavesS l := rfl
    have hpos : 0 < (leafS s).size := by rw [leafS_size hs]; omega
    by_cases h : k < (leafS s).size
    · refine ⟨0, (leafS s).extract 0 k, Nat.zero_le _, ?_, .inr (by rw [turn_front s hs k h]), ?_, fun i hi => ?_⟩
      · rw [e0, extract_fst _ _ _ (by omega)]
        show _ = (⟨#[]⟩ : ByteArray) ++ _
        apply ByteArray.ext
        apply Array.ext'
        rw [append_toList]
        rfl
      · show (leavesS []).size + _ = k
        rw [ByteArray.size_extract]
        have : (leavesS []).size = 0 := rfl
        omega
      · cases i with
        | zero => exact ⟨fun _ => Nat.zero_le _, fun _ => Nat.zero_le _⟩
        | succ i =>
          have : (leavesS ((s :: l).take (i + 1))).size = (leafS s).size + (leavesS (l.take i)).size := by
            show (leafS s ++ leavesS (l.take i)).size = _
            rw [ByteArray.size_append]
          rw [this]
          omega
    · have hk' : k - (leafS s).size ≤ (leavesS l).size := by
        rw [e0, ByteArray.size_append] at hk
        omega
      obtain ⟨m, rest, h1, h2, h3, h4, h5⟩ := leaves_cut l (k - (leafS s).size) (fun x hx => hl x (by simp [hx])) hk'
      refine ⟨m + 1, rest, by simpa using h1, ?_, h3, ?_, fun i hi => ?_⟩
      · show _ = (leafS s ++ leavesS (l.take m)) ++ rest
        rw [ByteArray.append_assoc, ← h2, e0]
        apply ByteArray.ext
        apply Array.ext'
        rw [Lib.extract_data, append_toList, append_toList, Lib.extract_data]
        simp only [List.drop_zero, Nat.sub_zero]
        rw [List.take_append, List.take_of_length_le (show (leafS s).data.toList.length ≤ k by show (leafS s).size ≤ k; omega)]
        rfl
      · have : (leavesS ((s :: l).take (m + 1))).size = (leafS s).size + (leavesS (l.take m)).size := by
          show (leafS s ++ leavesS (l.take m)).size = _
          rw [ByteArray.size_append]
        rw [this]
        omega
      · cases i with
        | zero => exact ⟨fun _ => Nat.zero_le _, fun _ => Nat.zero_le _⟩
        | succ i =>
          have : (leavesS ((s :: l).take (i + 1))).size = (leafS s).size + (leavesS (l.take i)).size := by
            show (leafS s ++ leavesS (l.take i)).size = _
            rw [ByteArray.size_append]
          have h6 := h5 i (by simpa using hi)
          rw [this]
          omega

#print axioms leaves_cut
end Go.Proofs.YtaekieoingflaaaGreatDoor

/-
  Calls of roll and journal, one behind the other, at chests and journals that lie apart.
-/
namespace Go.Proofs.YtaekieoingflaaaGreatDoor
open Go.RowKit Go.Maps Go.Proofs.MapD Go.Proofs.Chest

section
variable {w0 w : World} {c j : Nat} {st : St} {r : Jr} {L : List It}

theorem s_new (room : Int) (h : Sp w0 w L) :
    Calls Tryz.prog 8 #[.int .i64 room] w fun x w' => ∃ c, x = .returned (.pointer (some ⟨c, 0, none⟩)) ∧ Sp w0 w' (ch c ⟨(min (max room 0) 1048576).toNat, []⟩ :: L) :=
  (new_p room w).mono fun _ _ ⟨h1, h2, h3⟩ => ⟨_, h1, h.new (h3.below (Nat.le_refl _) (by simp)) ⟨_, h2, by simp⟩⟩

theorem s_write (h : Sp w0 w (ch c st :: L)) (hL : st.l.length ≤ 1000000) (n s : ByteArray) (hn : n.size ≤ 1000000) :
    Calls Tryz.prog 19 #[.pointer (some ⟨c, 0, none⟩), .string n, .string s] w fun x w' => x = .returned (.int .i64 (write st n s).1) ∧ Sp w0 w' (ch c (write st n s).2 :: L) := by
  obtain ⟨F, h1, _, k⟩ := h.turn
  exact (write_p h1 hL n s hn).mono fun x w' ⟨h4, h5⟩ => ⟨h4, k (ch c (write st n s).2) w' h5⟩

theorem s_jwrite (h : Sp w0 w (jc c j st r :: L)) (hL : st.l.length ≤ 1000000) (n s : ByteArray) (hn : n.size ≤ 1000000) :
    Calls Tryz.prog 19 #[.pointer (some ⟨c, 0, none⟩), .string n, .string s] w fun x w' => x = .returned (.int .i64 (write st n s).1) ∧ Sp w0 w' (jc c j (write st n s).2 r :: L) := by
  obtain ⟨H, ⟨F, G, rfl, hd, hR, hJ⟩, _, k⟩ := h.turn
  exact (write_p hR hL n s hn).mono fun x w' ⟨h4, h5⟩ => ⟨h4, k (jc c j (write st n s).2 r) w' (jc_chest hd hJ h5)⟩

theorem s_tear (h : Sp w0 w (ch c st :: L)) (hL : st.l.length ≤ 1000000) (n : Int) :
    Calls Tryz.prog 12 #[.pointer (some ⟨c, 0, none⟩), .int .i64 n] w fun x w' => ∃ d, x = .returned (.pointer (some ⟨d, 0, none⟩)) ∧ Sp w0 w' (ch d (tear st n) :: ch c st :: L) := by
  obtain ⟨F, h1⟩ := h.get
  exact (rtear_p h1 hL n).mono fun x w' ⟨h4, F', h5, h6, h7⟩ => ⟨_, h4, h.new h7 ⟨F', h5, h6⟩⟩

theorem s_jtear (h : Sp w0 w (jc c j st r :: L)) (hL : st.l.length ≤ 1000000) (n : Int) :
    Calls Tryz.prog 12 #[.pointer (some ⟨c, 0, none⟩), .int .i64 n] w fun x w' => ∃ d, x = .returned (.pointer (some ⟨d, 0, none⟩)) ∧ Sp w0 w' (ch d (tear st n) :: jc c j st r :: L) := by
  obtain ⟨H, F, G, rfl, hd, hR, hJ⟩ := h.get
  exact (rtear_p hR hL n).mono fun x w' ⟨h4, F', h5, h6, h7⟩ => ⟨_, h4, h.new h7 ⟨F', h5, h6⟩⟩

theorem s_read (h : Sp w0 w (ch c st :: L)) (n : ByteArray) (hn : n.size ≤ 1000000) :
    Calls Tryz.prog 16 #[.pointer (some ⟨c, 0, none⟩), .string n] w fun x w' => x = .returned (.tuple #[.string (readS st n).1, .bool (readS st n).2]) ∧ w = w' := by
  obtain ⟨F, h1⟩ := h.get
  exact rread_p h1 n hn

theorem s_jread (h : Sp w0 w (jc c j st r :: L)) (n : ByteArray) (hn : n.size ≤ 1000000) :
    Calls Tryz.prog 16 #[.pointer (some ⟨c, 0, none⟩), .string n] w fun x w' => x = .returned (.tuple #[.string (readS st n).1, .bool (readS st n).2]) ∧ w = w' := by
  obtain ⟨H, F, G, rfl, hd, hR, hJ⟩ := h.get
  exact rread_p hR n hn

theorem s_open (h : Sp w0 w (ch c st :: L)) (hlib : LibAt w0) (hL : st.l.length ≤ 900) :
    Calls Tryz.prog 15 #[.pointer (some ⟨c, 0, none⟩)] w fun x w' =>
      ((openS st).1 ≠ 0 ∧ x = .returned (.tuple #[.pointer none, .int .i64 (openS st).1]) ∧ Sp w0 w' (ch c (openS st).2.1 :: L)) ∨
      ((openS st).1 = 0 ∧ ∃ j, x = .returned (.tuple #[.pointer (some ⟨j, 0, none⟩), .int .i64 0]) ∧ Sp w0 w' (jc c j (openS st).2.1 (openS st).2.2 :: L)) := by
  obtain ⟨F, h1, hF, k⟩ := h.turn
  refine (open_p h1 hL ⟨hlib, h.bl, hF⟩).mono ?_
  rintro x w' (⟨h2, h3, h4⟩ | ⟨h2, j, H, h3, h4⟩)
  · exact .inl ⟨h2, h3, k (ch c (openS st).2.1) w' h4⟩
  · exact .inr ⟨h2, j, h3, k (jc c j (openS st).2.1 (openS st).2.2) w' ⟨H, h4⟩⟩

/-- Open, where it may be opened. -/
theorem s_open_ok {st' : St} {r' : Jr} (h : Sp w0 w (ch c st :: L)) (hlib : LibAt w0) (hL : st.l.length ≤ 900) (ho : openS st = (0, st', r')) :
    Calls Tryz.prog 15 #[.pointer (some ⟨c, 0, none⟩)] w fun x w' => ∃ j, x = .returned (.tuple #[.pointer (some ⟨j, 0, none⟩), .int .i64 0]) ∧ Sp w0 w' (jc c j st' r' :: L) := by
  refine (s_open h hlib hL).mono ?_
  rw [ho]
  rintro x w' (⟨h2, _⟩ | ⟨_, j, h3, h4⟩)
  · exact absurd rfl h2
  · exact ⟨j, h3, h4⟩

theorem s_add (h : Sp w0 w (jc c j st r :: L)) (hlib : LibAt w0) (hL : st.l.length ≤ 900) (hr : r.recs.length ≤ 1000000) (hl : r.long ≤ 1000000000) (s : ByteArray) (p : Bool) :
    Calls Tryz.prog 18 #[.pointer (some ⟨j, 0, none⟩), .string s, .bool p] w fun x w' => x = .returned (.int .i64 (addS st r s p).1) ∧ Sp w0 w' (jc c j (addS st r s p).2.1 (addS st r s p).2.2 :: L) := by
  obtain ⟨H, h1, _, k⟩ := h.turn
  exact (jadd_p h1 hL hr hl s p (hlib.below h.bl)).mono fun x w' ⟨h4, h5⟩ => ⟨h4, k (jc c j (addS st r s p).2.1 (addS st r s p).2.2) w' h5⟩

theorem s_lay (h : Sp w0 w (jc c j st r :: L)) (hlib : LibAt w0) (hL : st.l.length ≤ 900) (s : ByteArray) :
    Calls Tryz.prog 38 #[.pointer (some ⟨j, 0, none⟩), .string s] w fun x w' => x = .returned (.int .i64 (layS st r s).1) ∧ Sp w0 w' (jc c j (layS st r s).2.1 (layS st r s).2.2 :: L) := by
  obtain ⟨H, h1, _, k⟩ := h.turn
  exact (jlay_p h1 hL s (hlib.below h.bl)).mono fun x w' ⟨h4, h5⟩ => ⟨h4, k (jc c j (layS st r s).2.1 (layS st r s).2.2) w' h5⟩

theorem s_first (h : Sp w0 w (jc c j st r :: L)) : Calls Tryz.prog 42 #[.pointer (some ⟨j, 0, none⟩)] w fun x w' => x = .returned (.string r.first) ∧ w = w' := by
  obtain ⟨H, h1⟩ := h.get
  exact jfirst_p h1

theorem s_long (h : Sp w0 w (jc c j st r :: L)) : Calls Tryz.prog 43 #[.pointer (some ⟨j, 0, none⟩)] w fun x w' => x = .returned (.int .i64 r.long) ∧ w = w' := by
  obtain ⟨H, h1⟩ := h.get
  exact jlong_p h1

theorem s_records (h : Sp w0 w (jc c j st r :: L)) (hr : r.recs.length ≤ 1000000) :
    Calls Tryz.prog 21 #[.pointer (some ⟨j, 0, none⟩)] w fun x w' => ∃ v, x = .returned v ∧ Reads w' v r.recs ∧ Below w.heap.size w w' ∧ Sp w0 w' (jc c j st r :: L) := by
  obtain ⟨H, h1⟩ := h.get
  exact (jrecords_p h1 hr).mono fun x w' ⟨v, h4, h5, h6⟩ => ⟨v, h4, h5, h6, h.below h6⟩

end
end Go.Proofs.YtaekieoingflaaaGreatDoor

/-
  The contract of the law's eq; journal's calls at nil.
-/
namespace Go.Proofs.YtaekieoingflaaaGreatDoor
open Go.RowKit Go.Maps Go.Proofs.MapD Go.Proofs.Chest

theorem take_eq_succ {a b : List ByteArray} {k : Nat} {x y : ByteArray} (hx : a[k]? = some x) (hy : b[k]? = some y) (h : a.take k = b.take k) : a.take (k + 1) = b.take (k + 1) ↔ x = y := by
  obtain ⟨ha, rfl⟩ := List.getElem?_eq_some_iff.1 hx
  obtain ⟨hb, rfl⟩ := List.getElem?_eq_some_iff.1 hy
  rw [List.take_succ_eq_append_getElem ha, List.take_succ_eq_append_getElem hb, h]
  constructor
  · intro e
    have := List.append_cancel_left e
    simpa using this
  · intro e
    rw [e]

set_option maxRecDepth 100000 in
set_option maxHeartbeats 4000000 in
theorem jeq_p {w : World} {va vb : Value} {a b : List ByteArray} (ha : Reads w va a) (hb : Reads w vb b) (hla : a.length ≤ 2000000) :
    Calls Tryz.prog 20 #[va, vb] w fun x w' => x = .returned (.bool (decide (a = b))) ∧ Below w.heap.size w w' := by
  obtain ⟨ada, capa, rfl, hca⟩ := ha
  obtain ⟨adb, capb, rfl, hcb⟩ := hb
  by_cases hl : a.length = b.length
  · have hl' : ((a.length : Int) != (b.length : Int)) = false := by rw [bne_eq_false_iff_eq]; omega
    obtain ⟨R, hR⟩ : ∃ R, decide (a = b) = R := ⟨_, rfl⟩
    rw [hR]
    have HR := Lib.hid hR
    have HA := Lib.hid (And.intro hca hcb)
    clear hR hca hcb
    go_enter Tryz.func20, Tryz.ntmps20
    go_wp2_with fail
    go_loopw [5] (fun iv wr => ∃ k : Nat, k ≤ a.length ∧ iv = .int .i64 k ∧ Hid (a.take k = b.take k) ∧ Below w.heap.size w wr) (fun iv _ => a.length - (intOf iv).toNat)
    case atStart => exact ⟨0, Nat.zero_le _, rfl, Lib.hid (by simp), Below.refl _ _⟩
    case round =>
      obtain ⟨k, hk, rfl, HP, hB⟩ := hrel
      by_cases hlt : k < a.length
      · have hlt' : (k : Int) < (a.length : Int) := by omega
        have hlt2 : (k : Int) < (b.length : Int) := by omega
        obtain ⟨g, o, rfl, c1, hc⟩ := HA.out.1 (by omega)
        obtain ⟨g2, o2, rfl, c2, hc2⟩ := HA.out.2 (by omega)
        obtain ⟨x, ea⟩ : ∃ x, a[k]? = some x := ⟨_, List.getElem?_eq_getElem hlt⟩
        obtain ⟨y, eb⟩ : ∃ y, b[k]? = some y := ⟨_, List.getElem?_eq_getElem (by omega)⟩
        have q1 : wr.cell? ⟨g, o + k, none⟩ = some (.string x) := by
          have := hc k x ea
          rw [hB.cell (World.block_lt_of_cell? w _ this)]
          exact this
        have q2 : wr.cell? ⟨g2, o2 + k, none⟩ = some (.string y) := by
          have := hc2 k y eb
          rw [hB.cell (World.block_lt_of_cell? w _ this)]
          exact this
        have HB := Lib.hid hB
        have hk0 : 0 ≤ (k : Int) := by omega
        by_cases hxy : x = y
        · subst hxy
          have HS := Lib.hid ((take_eq_succ ea eb HP.out).2 rfl)
          clear hc hc2 ea eb hB
          go_wp2_with fail
          go_region
          go_wp2_with fail
          go_roundw
          case rel => exact ⟨k + 1, by omega, by go_num, HS, HB.out.drew⟩
          case measure => simp [intOf]; omega
        · have hne := not_toList hxy
          have hRf : R = false := by
            rw [← HR.out]
            refine decide_eq_false (fun e => hxy ?_)
            rw [e, eb] at ea
            exact (Option.some.inj ea).symm
          subst hRf
          clear hc hc2 ea eb hB hxy
          go_wp2_with fail
          go_region
          go_wp2_with fail
          go_ret
          exact ⟨rfl, HB.out.drew⟩
      · have hlt' : ¬ (k : Int) < (a.length : Int) := by omega
        have hRt : R = true := by
          rw [← HR.out]
          refine decide_eq_true ?_
          have h1 := HP.out
          rw [List.take_of_length_le (by omega), List.take_of_length_le (by omega)] at h1
          exact h1
        subst hRt
        have HB := Lib.hid hB
        clear hB
        go_wp2_with fail
        go_ret
        exact ⟨rfl, HB.out⟩
  · have hl' : ((a.length : Int) != (b.length : Int)) = true := by rw [bne_iff_ne]; omega
    have hne : decide (a = b) = false := decide_eq_false (fun e => hl (by rw [e]))
    rw [hne]
    clear hca hcb hne
    go_enter Tryz.func20, Tryz.ntmps20
    go_wp2_with fail
    go_ret
    exact ⟨rfl, Below.refl _ _⟩

end Go.Proofs.YtaekieoingflaaaGreatDoor
