/-
  roll's calls, one behind the other: a chest of the call's own.
-/
import Derived.Test.YtaekieoingflaaaGreatDoorRoll12
namespace Go.Proofs.YtaekieoingflaaaGreatDoor
open Go.RowKit Go.Maps Go.Proofs.MapD Go.Proofs.Chest

theorem rtear_p {w : World} {c : Nat} {F : List Nat} {st : St} (h : Rep w c F st) (hL : st.l.length ≤ 1000000) (n : Int) :
    Calls Tryz.prog 12 #[.pointer (some ⟨c, 0, none⟩), .int .i64 n] w fun x w' => x = .returned (.pointer (some ⟨w.heap.size, 0, none⟩)) ∧ Torn w (tear st n) w' := by
  obtain ⟨m, L, hR, hl, rfl⟩ := h
  obtain ⟨room, l⟩ := st
  simp only at hR hl hL
  subst hl
  cases m with
  | none => exact tear_none hR n
  | some b => exact tear_some hR (by unfold ab at hL; rw [List.length_map] at hL; exact hL) n

/-- A chest in blocks that are new since w0. -/
def Ch (w0 w : World) (c : Nat) (st : St) : Prop := (∃ F, Rep w c F st ∧ ∀ k ∈ F, w0.heap.size ≤ k) ∧ Below w0.heap.size w0 w

theorem Ch.below {w0 w w' : World} {c : Nat} {st : St} (h : Ch w0 w c st) (hb : Below w.heap.size w w') : Ch w0 w' c st := by
  obtain ⟨⟨F, h1, h2⟩, h3⟩ := h
  exact ⟨⟨F, h1.below hb, h2⟩, h3.trans (hb.mono h3.size)⟩

theorem Ch.turns {w0 w w' : World} {c : Nat} {st st' : St} (h : Ch w0 w c st) (ht : ∀ F, Rep w c F st → Turns w c F st' w') : Ch w0 w' c st' := by
  obtain ⟨⟨F, h1, h2⟩, h3⟩ := h
  obtain ⟨F', h4, h5, h6⟩ := ht F h1
  have := h3.size
  refine ⟨⟨F', h4, fun k hk => ?_⟩, h3.trans (h6.below h3.size h2)⟩
  rcases h5 k hk with h7 | h7
  · exact h2 k h7
  · omega

theorem Ch.wf {w0 w : World} {c : Nat} {st : St} (h : Ch w0 w c st) : Wf st := by
  obtain ⟨⟨F, h1, _⟩, _⟩ := h
  exact h1.wf

theorem new_c (room : Int) {w0 w : World} (hb : Below w0.heap.size w0 w) :
    Calls Tryz.prog 8 #[.int .i64 room] w fun e w' => ∃ c, e = .returned (.pointer (some ⟨c, 0, none⟩)) ∧ Ch w0 w' c ⟨(min (max room 0) 1048576).toNat, []⟩ := by
  refine (new_p room w).mono ?_
  rintro e w' ⟨rfl, h1, h2⟩
  exact ⟨_, rfl, ⟨_, h1, by simp; exact hb.size⟩, hb.trans (h2.below hb.size (by simp))⟩

section
variable {w0 w : World} {c : Nat} {st : St}

theorem write_c (h : Ch w0 w c st) (hL : st.l.length ≤ 1000000) (n s : ByteArray) (hn : n.size ≤ 1000000) :
    Calls Tryz.prog 19 #[.pointer (some ⟨c, 0, none⟩), .string n, .string s] w fun x w' => x = .returned (.int .i64 (write st n s).1) ∧ Ch w0 w' c (write st n s).2 := by
  have h0 := h
  obtain ⟨⟨F, h1, h2⟩, h3⟩ := h
  exact (write_p h1 hL n s hn).mono fun x w' ⟨h4, h5⟩ => ⟨h4, by
    obtain ⟨F', h6, h7, h8⟩ := h5
    have := h3.size
    refine ⟨⟨F', h6, fun k hk => ?_⟩, h3.trans (h8.below h3.size h2)⟩
    rcases h7 k hk with h9 | h9
    · exact h2 k h9
    · omega⟩

theorem press_c (h : Ch w0 w c st) (n : ByteArray) (hn : n.size ≤ 1000000) :
    Calls Tryz.prog 23 #[.pointer (some ⟨c, 0, none⟩), .string n] w fun x w' => x = .returned (.int .i64 (press st n).1) ∧ Ch w0 w' c (press st n).2 := by
  obtain ⟨⟨F, h1, h2⟩, h3⟩ := h
  exact (rpress_p h1 n hn).mono fun x w' ⟨h4, h5⟩ => ⟨h4, by
    obtain ⟨F', h6, h7, h8⟩ := h5
    have := h3.size
    refine ⟨⟨F', h6, fun k hk => ?_⟩, h3.trans (h8.below h3.size h2)⟩
    rcases h7 k hk with h9 | h9
    · exact h2 k h9
    · omega⟩

theorem cut_c (h : Ch w0 w c st) (n : ByteArray) (hn : n.size ≤ 1000000) (k : Int) :
    Calls Tryz.prog 24 #[.pointer (some ⟨c, 0, none⟩), .string n, .int .i64 k] w fun x w' => x = .returned (.int .i64 (cut st n k).1) ∧ Ch w0 w' c (cut st n k).2 := by
  obtain ⟨⟨F, h1, h2⟩, h3⟩ := h
  exact (rcut_p h1 n hn k).mono fun x w' ⟨h4, h5⟩ => ⟨h4, by
    obtain ⟨F', h6, h7, h8⟩ := h5
    have := h3.size
    refine ⟨⟨F', h6, fun k hk => ?_⟩, h3.trans (h8.below h3.size h2)⟩
    rcases h7 k hk with h9 | h9
    · exact h2 k h9
    · omega⟩

theorem call_c (h : Ch w0 w c st) (hL : st.l.length ≤ 1000000) (f t : ByteArray) (hf : f.size ≤ 1000000) (ht : t.size ≤ 1000000) :
    Calls Tryz.prog 25 #[.pointer (some ⟨c, 0, none⟩), .string f, .string t] w fun x w' => x = .returned (.int .i64 (call st f t).1) ∧ Ch w0 w' c (call st f t).2 := by
  obtain ⟨⟨F, h1, h2⟩, h3⟩ := h
  exact (rcall_p h1 hL f t hf ht).mono fun x w' ⟨h4, h5⟩ => ⟨h4, by
    obtain ⟨F', h6, h7, h8⟩ := h5
    have := h3.size
    refine ⟨⟨F', h6, fun k hk => ?_⟩, h3.trans (h8.below h3.size h2)⟩
    rcases h7 k hk with h9 | h9
    · exact h2 k h9
    · omega⟩

theorem tear_c (h : Ch w0 w c st) (hL : st.l.length ≤ 1000000) (n : Int) :
    Calls Tryz.prog 12 #[.pointer (some ⟨c, 0, none⟩), .int .i64 n] w fun x w' => ∃ d, x = .returned (.pointer (some ⟨d, 0, none⟩)) ∧ Ch w0 w' c st ∧ Ch w0 w' d (tear st n) := by
  have h0 := h
  obtain ⟨⟨F, h1, h2⟩, h3⟩ := h
  refine (rtear_p h1 hL n).mono ?_
  rintro x w' ⟨rfl, F', h4, h5, h6⟩
  refine ⟨_, rfl, h0.below h6, ⟨F', h4, fun k hk => ?_⟩, h3.trans (h6.mono h3.size)⟩
  exact Nat.le_trans h3.size (h5 k hk)

theorem read_c (h : Ch w0 w c st) (n : ByteArray) (hn : n.size ≤ 1000000) :
    Calls Tryz.prog 16 #[.pointer (some ⟨c, 0, none⟩), .string n] w fun x w' => x = .returned (.tuple #[.string (readS st n).1, .bool (readS st n).2]) ∧ w = w' := by
  obtain ⟨⟨F, h1, h2⟩, h3⟩ := h
  exact rread_p h1 n hn

theorem pressed_c (h : Ch w0 w c st) (n : ByteArray) (hn : n.size ≤ 1000000) :
    Calls Tryz.prog 27 #[.pointer (some ⟨c, 0, none⟩), .string n] w fun x w' => x = .returned (.int .i64 ((pressedS st n : Nat) : Int)) ∧ w = w' := by
  obtain ⟨⟨F, h1, h2⟩, h3⟩ := h
  exact rpressed_p h1 n hn

theorem room_c (h : Ch w0 w c st) :
    Calls Tryz.prog 28 #[.pointer (some ⟨c, 0, none⟩)] w fun x w' => x = .returned (.int .i64 (st.room : Int)) ∧ w = w' := by
  obtain ⟨⟨F, h1, h2⟩, h3⟩ := h
  exact rroom_p h1

end

end Go.Proofs.YtaekieoingflaaaGreatDoor
