/-
  RollRoom answers true.
-/
import Derived.Test.YtnobbfidngdmhaaDoorRoll14
import Derived.Test.YtnobbfidngdmhaaDoorDigits
namespace Go.Proofs.YtnobbfidngdmhaaDoor
open Go.RowKit Go.Maps Go.Proofs.MapD Go.Proofs.Chest

/-- How many bytes stand on a roll. -/
def usedOf (st : St) (n : ByteArray) : Nat := match Chest.get st.l n with | none => 0 | some r => r.t.size

theorem get_set (l : Rolls) (n m : ByteArray) (x : Rl) : Chest.get (Chest.set l n x) m = if n = m then (Chest.get l n).map (fun _ => x) else Chest.get l m := by
  induction l with
  | nil => simp [Chest.get, Chest.set]
  | cons e r ih =>
    have e1 : Chest.set (e :: r) n x = (if e.1 = n then (n, x) else e) :: Chest.set r n x := rfl
    rw [e1]
    by_cases h1 : e.1 = n
    · rw [if_pos h1]
      unfold Chest.get
      by_cases h2 : n = m
      · subst h2; simp [h1]
      · simp only [h2, if_false, ih]
        have : ¬ e.1 = m := by rw [h1]; exact h2
        simp [this]
    · rw [if_neg h1]
      unfold Chest.get
      by_cases h2 : n = m
      · subst h2; simp [h1, ih]
      · simp only [h2, if_false, ih]

/-- What a Write makes of what is used. -/
theorem used_write (st : St) (n s : ByteArray) (hn : okName n = true) :
    (st.room < s.size ∧ write st n s = (5, st)) ∨ (s.size ≤ st.room ∧ (write st n s).1 = 0 ∧ (write st n s).2.room = st.room - s.size ∧ ∀ m, usedOf (write st n s).2 m = if n = m then usedOf st n + s.size else usedOf st m) := by
  unfold write
  rw [if_neg (by rw [hn]; decide)]
  by_cases hr : st.room < s.size
  · left; rw [if_pos hr]; exact ⟨hr, rfl⟩
  · right
    rw [if_neg hr]
    refine ⟨by omega, ?_⟩
    unfold usedOf
    cases hg : Chest.get st.l n with
    | none =>
      refine ⟨rfl, rfl, fun m => ?_⟩
      simp only [Chest.get]
      by_cases h : n = m
      · simp [h]
      · simp [h]
    | some r =>
      refine ⟨rfl, rfl, fun m => ?_⟩
      simp only [get_set, hg]
      by_cases h : n = m
      · simp [h, ByteArray.size_append]
      · simp [h]

theorem used_cut (st : St) (n : ByteArray) (k : Nat) (hk : k ≤ usedOf st n) (h0 : 0 < usedOf st n) :
    (cut st n (k : Int)).1 = 0 ∧ (cut st n (k : Int)).2.room = st.room + (usedOf st n - k) ∧ ∀ m, usedOf (cut st n (k : Int)).2 m = if n = m then k else usedOf st m := by
  unfold cut
  unfold usedOf at hk h0 ⊢
  cases hg : Chest.get st.l n with
  | none => rw [hg] at h0; simp at h0
  | some r =>
    rw [hg] at hk h0
    simp only at hk h0 ⊢
    rw [if_neg (by omega)]
    refine ⟨rfl, rfl, fun m => ?_⟩
    simp only [get_set, hg]
    by_cases h : n = m
    · simp [h, ByteArray.size_extract]; omega
    · simp [h]

theorem used_total (st : St) (hw : Wf st) (n : ByteArray) : usedOf st n ≤ 1048576 := by
  unfold usedOf
  cases hg : Chest.get st.l n with
  | none => exact Nat.zero_le _
  | some r =>
    have h1 := total_le (get_mem hg)
    have h2 := hw.room
    simp only at h1 ⊢
    omega

/-- Three numbers in a row. -/
def U3 (w : World) (U : Nat) (a b c : Nat) : Prop :=
  (w.cell? ⟨U, 0, none⟩ = some (.int .i64 a) ∧ w.cell? ⟨U, 1, none⟩ = some (.int .i64 b) ∧ w.cell? ⟨U, 2, none⟩ = some (.int .i64 c)) ∧ (w.frozen? ⟨U, 0, none⟩ = false ∧ w.frozen? ⟨U, 1, none⟩ = false ∧ w.frozen? ⟨U, 2, none⟩ = false)

theorem U3.kept {w w' : World} {U a b c : Nat} (h : U3 w U a b c) (e : w'.heap[U]? = w.heap[U]?) : U3 w' U a b c := by
  obtain ⟨⟨h0, h1, h2⟩, z0, z1, z2⟩ := h
  have k := cell_of_block e
  have f := frozen_of_block e
  exact ⟨⟨by rw [k]; exact h0, by rw [k]; exact h1, by rw [k]; exact h2⟩, by rw [f]; exact z0, by rw [f]; exact z1, by rw [f]; exact z2⟩

theorem U3.lt {w : World} {U a b c : Nat} (h : U3 w U a b c) : U < w.heap.size := World.block_lt_of_cell? w _ h.1.1

/-- A chest of the call's own beside the three numbers. -/
def ChU (w0 w : World) (c : Nat) (st : St) (U : Nat) : Prop := (∃ F, Rep w c F st ∧ ∀ k ∈ F, w0.heap.size ≤ k ∧ k ≠ U) ∧ Below w0.heap.size w0 w

theorem ChU.below {w0 w w' : World} {c U : Nat} {st : St} (h : ChU w0 w c st U) (hb : Below w.heap.size w w') : ChU w0 w' c st U := by
  obtain ⟨⟨F, h1, h2⟩, h3⟩ := h
  exact ⟨⟨F, h1.below hb, h2⟩, h3.trans (hb.mono h3.size)⟩

theorem ChU.set {w0 w : World} {c U : Nat} {st : St} (h : ChU w0 w c st U) (hU : w0.heap.size ≤ U) (o : Nat) (v : Value) : ChU w0 (w.setCell ⟨U, o, none⟩ v) c st U := by
  obtain ⟨⟨F, h1, h2⟩, h3⟩ := h
  exact ⟨⟨F, h1.kept (fun k hk => Below.heap_setCell _ _ _ _ (h2 k hk).2), h2⟩, h3.setCell hU v⟩

section
variable {w0 w : World} {c U : Nat} {st : St} {a b d : Nat}

theorem turns_u {w' : World} {st' : St} {F : List Nat} (h2 : ∀ k ∈ F, w0.heap.size ≤ k ∧ k ≠ U) (h3 : Below w0.heap.size w0 w) (hu : U3 w U a b d) (h5 : Turns w c F st' w') : ChU w0 w' c st' U ∧ U3 w' U a b d := by
  obtain ⟨F', h6, h7, h8⟩ := h5
  have := h3.size
  have hul := hu.lt
  refine ⟨⟨⟨F', h6, fun k hk => ?_⟩, h3.trans (h8.below h3.size (fun k hk => (h2 k hk).1))⟩, hu.kept (h8.block U hul (fun hm => (h2 U hm).2 rfl))⟩
  rcases h7 k hk with h9 | h9
  · exact h2 k h9
  · exact ⟨by omega, by omega⟩

theorem write_u (h : ChU w0 w c st U) (hu : U3 w U a b d) (hL : st.l.length ≤ 1000000) (n s : ByteArray) (hn : n.size ≤ 1000000) :
    Calls Tryd.prog 11 #[.pointer (some ⟨c, 0, none⟩), .string n, .string s] w fun x w' => x = .returned (.int .i64 (write st n s).1) ∧ ChU w0 w' c (write st n s).2 U ∧ U3 w' U a b d := by
  obtain ⟨⟨F, h1, h2⟩, h3⟩ := h
  exact (write_p h1 hL n s hn).mono fun x w' ⟨h4, h5⟩ => ⟨h4, turns_u h2 h3 hu h5⟩

theorem cut_u (h : ChU w0 w c st U) (hu : U3 w U a b d) (n : ByteArray) (hn : n.size ≤ 1000000) (k : Int) :
    Calls Tryd.prog 13 #[.pointer (some ⟨c, 0, none⟩), .string n, .int .i64 k] w fun x w' => x = .returned (.int .i64 (cut st n k).1) ∧ ChU w0 w' c (cut st n k).2 U ∧ U3 w' U a b d := by
  obtain ⟨⟨F, h1, h2⟩, h3⟩ := h
  exact (rcut_p h1 n hn k).mono fun x w' ⟨h4, h5⟩ => ⟨h4, turns_u h2 h3 hu h5⟩

theorem room_u (h : ChU w0 w c st U) :
    Calls Tryd.prog 17 #[.pointer (some ⟨c, 0, none⟩)] w fun x w' => x = .returned (.int .i64 (st.room : Int)) ∧ w = w' := by
  obtain ⟨⟨F, h1, h2⟩, h3⟩ := h
  exact rroom_p h1

end

def nk (k : Nat) : ByteArray := ⟨#[UInt8.ofNat (65 + k)]⟩
theorem nk_ok (k : Nat) (hk : k < 3) : okName (nk k) = true := by
  rcases k with _|_|_|k
  · kernel_rfl
  · kernel_rfl
  · kernel_rfl
  · omega
theorem nk_ne (j k : Nat) (hj : j < 3) (hk : k < 3) (h : j ≠ k) : nk j ≠ nk k := by
  rcases j with _|_|_|j <;> rcases k with _|_|_|k
  all_goals first | (exfalso; omega) | decide

/-- What the loop keeps. -/
def RoomRel (w : World) (room : Nat) (len c U : Nat) (iv : Value) (wr : World) : Prop :=
  ∃ (i : Nat) (st : St), i ≤ len ∧ i ≤ 30 ∧ iv = .int .i64 i ∧ Hid (ChU w wr c st U) ∧ Hid (U3 wr U (usedOf st (nk 0)) (usedOf st (nk 1)) (usedOf st (nk 2))) ∧ Hid (st.room + usedOf st (nk 0) + usedOf st (nk 1) + usedOf st (nk 2) = room) ∧ Hid (st.l.length ≤ i)

theorem room_q {w0 w : World} {c U : Nat} {st : St} (h : ChU w0 w c st U) (n : Nat) :
    Calls Tryd.prog 17 #[.pointer (some ⟨c, 0, none⟩)] (w.drewN n) fun x w' => x = .returned (.int .i64 (st.room : Int)) ∧ w' = w.drewN n := by
  obtain ⟨⟨F, h1, h2⟩, h3⟩ := h
  have h4 : Rep (w.drewN n) c F st := h1.kept (fun _ _ => rfl)
  exact (rroom_p h4).mono fun _ _ ⟨h5, h6⟩ => ⟨h5, h6.symm⟩

/-- The three numbers, one of them another. -/
def up (j k v u : Nat) : Nat := if j = k then v else u

theorem U3.upd {w : World} {U a b d : Nat} (h : U3 w U a b d) (k v : Nat) (hk : k < 3) : U3 (w.setCell ⟨U, k, none⟩ (.int .i64 (v : Int))) U (up 0 k v a) (up 1 k v b) (up 2 k v d) := by
  obtain ⟨⟨h0, h1, h2⟩, z0, z1, z2⟩ := h
  rcases k with _ | _ | _ | k
  · refine ⟨⟨?_, ?_, ?_⟩, ?_, ?_, ?_⟩ <;> (try simp only [up, if_pos, Nat.one_ne_zero, if_false, show ¬ (2 : Nat) = 0 by decide]) <;> go_simp
  · refine ⟨⟨?_, ?_, ?_⟩, ?_, ?_, ?_⟩ <;> (try simp only [up, Nat.zero_add, if_pos, show ¬ (0 : Nat) = 1 by decide, if_false, show ¬ (2 : Nat) = 1 by decide]) <;> go_simp
  · refine ⟨⟨?_, ?_, ?_⟩, ?_, ?_, ?_⟩ <;> (try simp only [up, Nat.zero_add, Nat.reduceAdd, if_pos, show ¬ (0 : Nat) = 2 by decide, if_false, show ¬ (1 : Nat) = 2 by decide]) <;> go_simp
  · omega

theorem U3.at {w : World} {U a b d : Nat} (h : U3 w U a b d) (k : Nat) (hk : k < 3) : ∃ u : Nat, u = (if k = 0 then a else if k = 1 then b else d) ∧ w.cell? ⟨U, k, none⟩ = some (.int .i64 u) ∧ w.frozen? ⟨U, k, none⟩ = false := by
  obtain ⟨⟨h0, h1, h2⟩, z0, z1, z2⟩ := h
  rcases k with _ | _ | _ | k
  · exact ⟨_, rfl, h0, z0⟩
  · exact ⟨_, rfl, h1, z1⟩
  · exact ⟨_, rfl, h2, z2⟩
  · omega

theorem name_conv (k : Nat) (hk : k < 3) (w : World) : (convert 36 9 (.slice (some ⟨w.heap.size, 0, none⟩) 1 1)).run Tryd.prog (w.alloc (.cells #[.int .u8 (65 + (k : Int))] 5)) = .ok (.string (nk k)) (w.alloc (.cells #[.int .u8 (65 + (k : Int))] 5)) := by
  have := conv_one (w.alloc (.cells #[.int .u8 (65 + (k : Int))] 5)) w.heap.size 1 (65 + (k : Int)) (by go_simp)
  rw [show (65 + (k : Int)).toNat = 65 + k by omega] at this
  exact this

theorem nk_size (k : Nat) : (nk k).size = 1 := rfl

/-- What a round leaves behind. -/
theorem room_step {w w' : World} {room len c U i k : Nat} {st st' : St} (hi : i < len) (hi30 : i < 30) (hk : k < 3) {v : Nat} (hw' : ChU w w' c st' U)
    (hu' : U3 w' U (up 0 k v (usedOf st (nk 0))) (up 1 k v (usedOf st (nk 1))) (up 2 k v (usedOf st (nk 2)))) (hs : ∀ m, usedOf st' m = if nk k = m then v else usedOf st m) (hr : st.room + usedOf st (nk 0) + usedOf st (nk 1) + usedOf st (nk 2) = room)
    (hr' : st'.room + v = st.room + usedOf st (nk k)) (hl : st.l.length ≤ i) (hl' : st'.l.length ≤ st.l.length + 1) : RoomRel w room len c U (.int .i64 ((i + 1 : Nat) : Int)) w' := by
  have e : ∀ j, j < 3 → usedOf st' (nk j) = up j k v (usedOf st (nk j)) := fun j hj => by
    rw [hs]
    unfold up
    by_cases h : j = k
    · subst h; simp
    · rw [if_neg (fun h1 => nk_ne k j hk hj (fun h2 => h h2.symm) h1), if_neg h]
  refine ⟨i + 1, st', by omega, by omega, rfl, Lib.hid hw', Lib.hid ?_, Lib.hid ?_, Lib.hid (by omega)⟩
  · rw [e 0 (by omega), e 1 (by omega), e 2 (by omega)]
    exact hu'
  · rw [e 0 (by omega), e 1 (by omega), e 2 (by omega)]
    unfold up
    rcases k with _ | _ | _ | k
    · simp only [if_pos, Nat.one_ne_zero, if_false, show ¬ (2 : Nat) = 0 by decide] at hr' ⊢; omega
    · simp only [Nat.zero_add, if_pos, show ¬ (0 : Nat) = 1 by decide, if_false, show ¬ (2 : Nat) = 1 by decide] at hr' ⊢; omega
    · simp only [Nat.zero_add, Nat.reduceAdd, if_pos, show ¬ (0 : Nat) = 2 by decide, if_false, show ¬ (1 : Nat) = 2 by decide] at hr' ⊢; omega
    · omega

set_option maxRecDepth 100000 in
set_option maxHeartbeats 16000000 in
theorem rollRoom_walk (room0 : Int) (v : Value) (len : Nat) (cs : Nat → Int) (b off cap : Nat) (a0 : Option Addr) (hv : v = .slice a0 len cap) (had : 0 < len → a0 = some ⟨b, off, none⟩) (w : World) (hbg : BegunTrue3) (h : LibAt w) (hl : len ≤ 9223372036854775807) (hbl : 0 < len → b < w.heap.size)
    (hc : ∀ i, i < len → w.cell? ⟨b, off + i, none⟩ = some (.int .i64 (cs i))) :
    Calls Tryd.prog 4 #[.int .i64 room0, v] w fun e w' => e = .returned (.bool true) ∧ Below w.heap.size w w' := by
  subst hv
  have HB := Lib.hid (hbg w h)
  clear hbg h
  obtain ⟨room, hroom⟩ : ∃ room : Nat, max 0 (min room0 3000) = (room : Int) := ⟨(max 0 (min room0 3000)).toNat, by omega⟩
  have hrm : room ≤ 3000 := by omega
  have hst0 : (⟨(min (max (room : Int) 0) 1048576).toNat, []⟩ : St) = ⟨room, []⟩ := by
    rw [show (min (max (room : Int) 0) 1048576).toNat = room by omega]
  have HS0 := Lib.hid hst0
  have HCS := Lib.hid hc
  have HBL := Lib.hid hbl
  have HAD := Lib.hid had
  clear hst0 hc hbl had
  go_enter Tryd.func4, Tryd.ntmps4
  go_wp2_with fail
  refine HB.out.mono ?_
  rintro _ w1 ⟨rfl, hb⟩
  have HB1 := Lib.hid hb
  clear hb
  go_wp2_with fail
  refine (new_c _ HB1.out).mono ?_
  rintro _ w2 ⟨c, rfl, h2⟩
  rw [HS0.out] at h2
  have H2 := Lib.hid h2
  clear h2 hroom
  go_wp2_with fail
  obtain ⟨U, hU⟩ : ∃ U, w2.heap.size = U := ⟨_, rfl⟩
  have hUw : w.heap.size ≤ U := by rw [← hU]; exact H2.out.2.size
  have hstart : RoomRel w room len c U (.int .i64 0) (w2.alloc (.cells #[.int .i64 0, .int .i64 0, .int .i64 0] 35)) := by
    obtain ⟨⟨F, f1, f2⟩, f3⟩ := H2.out
    refine ⟨0, ⟨room, []⟩, by omega, by omega, rfl, Lib.hid ⟨⟨F, f1.below ((Below.refl _ _).alloc (Nat.le_refl _) _), fun k hk => ⟨f2 k hk, fun e => ?_⟩⟩, f3.alloc f3.size _⟩, Lib.hid ⟨⟨?_, ?_, ?_⟩, ?_, ?_, ?_⟩, Lib.hid rfl, Lib.hid (by simp)⟩
    · have := f1.lt k hk; omega
    all_goals
      rw [← hU]
      try simp only [usedOf, Chest.get]
      go_simp
  have HST := Lib.hid hstart
  rw [hU]
  clear hU hstart
  go_loopw [8] (fun iv wr => RoomRel w room len c U iv wr) (fun i _ => len - (intOf i).toNat)
  case atStart => exact HST.out
  case round =>
    obtain ⟨i, st, hi, hi30, rfl, HC, HU, HT, HL⟩ := hrel
    by_cases hlt : i < len ∧ i < 30
    · obtain ⟨hlt1, hlt2⟩ := hlt
      have h0 := HAD.out (by omega)
      subst h0
      have hwr := HC.out.2
      obtain ⟨z, hz⟩ : ∃ z, cs i = z := ⟨_, rfl⟩
      have hci : wr.cell? ⟨b, off + i, none⟩ = some (.int .i64 z) := by
        rw [hwr.cell (p := ⟨b, off + i, none⟩) (HBL.out (by omega)), HCS.out i hlt1, hz]
      obtain ⟨k, hk, hk3⟩ : ∃ k : Nat, (i : Int) % 3 = (k : Int) ∧ k < 3 := ⟨i % 3, by omega, by omega⟩
      obtain ⟨q, hq, q0, q1⟩ : ∃ q : Int, z.tmod 400 = q ∧ -400 < q ∧ q < 400 := ⟨_, rfl, Int.lt_tmod_of_pos z (by decide), Int.tmod_lt_of_pos z (by decide)⟩
      obtain ⟨n, hn, hn4⟩ : ∃ n : Nat, (q + 400) % 400 = (n : Int) ∧ n < 400 := ⟨((q + 400) % 400).toNat, by omega, by omega⟩
      have hUr : U < wr.heap.size := HU.out.lt
      have hba := (Below.refl wr.heap.size wr).alloc (Nat.le_refl _) (.cells #[.int .u8 (65 + (k : Int))] 5)
      have hU1 := HU.out.kept (hba.block U hUr)
      have hci1 : (wr.alloc (.cells #[.int .u8 (65 + (k : Int))] 5)).cell? ⟨b, off + i, none⟩ = some (.int .i64 z) := by
        rw [World.cell?_alloc_lt _ _ _ (World.block_lt_of_cell? wr _ hci)]
        exact hci
      obtain ⟨u, hu, ck, fk⟩ := hU1.at k hk3
      have huk : usedOf st (nk k) = u := by
        rw [hu]
        rcases k with _ | _ | _ | k
        · rfl
        · rfl
        · rfl
        · omega
      have hU2 := hU1
      obtain ⟨⟨d0, d1, d2⟩, _, _, _⟩ := hU2
      have hT := HT.out
      have hW := HC.out.1
      have b0 : usedOf st (nk 0) ≤ 3000 := by omega
      have b1 : usedOf st (nk 1) ≤ 3000 := by omega
      have b2 : usedOf st (nk 2) ≤ 3000 := by omega
      have bu : u ≤ 3000 := by
        rw [hu]
        split
        · exact b0
        · split
          · exact b1
          · exact b2
      have bst : st.room ≤ 3000 := by omega
      have hfr : (room : Int) - (usedOf st (nk 0) : Int) - (usedOf st (nk 1) : Int) - (usedOf st (nk 2) : Int) = (st.room : Int) := by omega
      have hcn := name_conv k hk3 wr
      have HUU := Lib.hid huk
      have HC1 : Hid (ChU w (wr.alloc (.cells #[.int .u8 (65 + (k : Int))] 5)) c st U) := Lib.hid (HC.out.below hba)
      have HU1 : Hid (U3 (wr.alloc (.cells #[.int .u8 (65 + (k : Int))] 5)) U (usedOf st (nk 0)) (usedOf st (nk 1)) (usedOf st (nk 2))) := Lib.hid hU1
      have hLL := HL.out
      have HLL : Hid (st.l.length ≤ 1000000) := Lib.hid (by omega)
      have HUE := Lib.hid hu
      have HTT := Lib.hid hT
      obtain ⟨u0, hu0⟩ : ∃ u0, usedOf st (nk 0) = u0 := ⟨_, rfl⟩
      obtain ⟨u1, hu1⟩ : ∃ u1, usedOf st (nk 1) = u1 := ⟨_, rfl⟩
      obtain ⟨u2, hu2⟩ : ∃ u2, usedOf st (nk 2) = u2 := ⟨_, rfl⟩
      have HA0 := Lib.hid hu0
      have HA1 := Lib.hid hu1
      have HA2 := Lib.hid hu2
      rw [hu0] at d0 b0 hfr HU1 hU1 HUE
      rw [hu1] at d1 b1 hfr HU1 hU1 HUE
      rw [hu2] at d2 b2 hfr HU1 hU1 HUE
      clear hu0 hu1 hu2
      clear hz hu huk hT hW hwr hba hi hi30 hLL hci hU1
      by_cases h5 : i % 5 = 4
      · have h5' : (i : Int) % 5 = 4 := by omega
        clear h5
        obtain ⟨m, hm, hmu⟩ : ∃ m : Nat, min (n : Int) (u : Int) = (m : Int) ∧ m ≤ u := ⟨min n u, by omega, by omega⟩
        have hm2 : min (u : Int) (m : Int) = (m : Int) := by omega
        by_cases hu0 : 0 < u
        · have hcut := used_cut st (nk k) m (by rw [HUU.out]; exact hmu) (by rw [HUU.out]; exact hu0)
          have HCUT := Lib.hid hcut
          clear hcut
          go_wp2_with fail
          refine (cut_u HC1.out HU1.out (nk k) (by rw [nk_size]; omega) (m : Int)).mono ?_
          rintro _ w4 ⟨rfl, h4, h4'⟩
          rw [HCUT.out.1]
          have h4'' := h4'
          obtain ⟨u', hu', ck', fk'⟩ := h4''.at k hk3
          have H4 := Lib.hid (And.intro h4 h4')
          have hue : u' = u := by rw [hu', HUE.out]
          subst hue
          clear h4 h4' hu' ck fk d0 d1 d2
          go_wp2_with fail
          refine ⟨?_, ?_⟩
          · have := room_step (k := k) (v := m) (w' := w4.setCell ⟨U, k, none⟩ (.int .i64 (m : Int))) hlt1 hlt2 hk3 (H4.out.1.set hUw k _) (by rw [HA0.out, HA1.out, HA2.out]; exact H4.out.2.upd k m hk3) HCUT.out.2.2 HTT.out (by rw [HCUT.out.2.1, HUU.out]; omega) HL.out (by rw [len_cut]; omega)
            simpa using this
          · simp [intOf]; omega
        · have hub : decide (0 < u) = false := decide_eq_false hu0
          have HU0 : Hid (u = 0 ∧ m = 0) := Lib.hid (by omega)
          clear hu0
          go_wp2_with fail
          refine ⟨?_, ?_⟩
          · have hC3 : ChU w ((wr.setCell ⟨U, k, none⟩ (.int .i64 (m : Int))).alloc (.cells #[.int .u8 (65 + (k : Int))] 5)) c st U := (HC.out.set hUw k _).below ((Below.refl _ _).alloc (Nat.le_refl _) _)
            have hU3 : U3 ((wr.setCell ⟨U, k, none⟩ (.int .i64 (m : Int))).alloc (.cells #[.int .u8 (65 + (k : Int))] 5)) U (up 0 k m u0) (up 1 k m u1) (up 2 k m u2) := by
              have h1 := HU.out
              rw [HA0.out, HA1.out, HA2.out] at h1
              exact (h1.upd k m hk3).kept (Below.heap_alloc _ _ _ (by simp [World.setCell]; exact hUr))
            have := room_step (k := k) (v := m) hlt1 hlt2 hk3 hC3 (by rw [HA0.out, HA1.out, HA2.out]; exact hU3) (fun j => by
              by_cases hj : nk k = j
              · rw [if_pos hj]
                have h2 := HUU.out
                have h3 := HU0.out
                rw [← hj]
                omega
              · rw [if_neg hj]) HTT.out (by rw [HUU.out]; have := HU0.out; omega) HL.out (by omega)
            simpa using this
          · simp [intOf]; omega
      · have h5' : ((i : Int) % 5 == 4) = false := by
          rw [beq_eq_false_iff_ne]
          omega
        clear h5
        have hmk : ∀ w : World, (Instr.makeSlice 36 (.int .i64 (n : Int)) (.int .i64 (n : Int))).run Tryd.prog w = .ok (.slice (some ⟨w.heap.size, 0, none⟩) n n) (w.alloc (.cells (madeCells #[.int .u8 0] n) 5)) := fun w => mk_zeros n (by omega) w
        have hcz := zeros_conv n (by omega) (wr.alloc (.cells #[.int .u8 (65 + (k : Int))] 5))
        have en : (wr.alloc (.cells #[.int .u8 (65 + (k : Int))] 5)).heap.size = wr.heap.size + 1 := by simp
        rw [en] at hcz
        have hb2 := (Below.refl (wr.alloc (.cells #[.int .u8 (65 + (k : Int))] 5)).heap.size (wr.alloc (.cells #[.int .u8 (65 + (k : Int))] 5))).alloc (Nat.le_refl _) (.cells (madeCells #[.int .u8 0] n) 5)
        have HC2 : Hid (ChU w ((wr.alloc (.cells #[.int .u8 (65 + (k : Int))] 5)).alloc (.cells (madeCells #[.int .u8 0] n) 5)) c st U) := Lib.hid (HC1.out.below hb2)
        have HU2 : Hid (U3 ((wr.alloc (.cells #[.int .u8 (65 + (k : Int))] 5)).alloc (.cells (madeCells #[.int .u8 0] n) 5)) U u0 u1 u2) := Lib.hid (HU1.out.kept (hb2.block U HU1.out.lt))
        have hzs := zeros_size n
        clear en hb2
        rcases used_write st (nk k) (zeros n) (nk_ok k hk3) with ⟨hf, hwf⟩ | ⟨hf, hwf⟩
        · rw [hzs] at hf
          have hf1 : ¬ n ≤ st.room := by omega
          have HWF := Lib.hid hwf
          clear hwf hf hzs
          go_wp2_with fail
          refine (write_u HC2.out HU2.out HLL.out (nk k) (zeros n) (by rw [nk_size]; omega)).mono ?_
          rintro _ w4 ⟨rfl, h4, h4'⟩
          rw [HWF.out] at h4 ⊢
          have H4 := Lib.hid (And.intro h4 h4')
          clear h4 h4' d0 d1 d2
          go_wp2_with fail
          refine ⟨?_, ?_⟩
          · have : RoomRel w room len c U (.int .i64 ((i + 1 : Nat) : Int)) w4 := ⟨i + 1, st, by omega, by omega, rfl, Lib.hid H4.out.1, Lib.hid (by rw [HA0.out, HA1.out, HA2.out]; exact H4.out.2), HT, Lib.hid (by have := HL.out; omega)⟩
            simpa using this
          · simp [intOf]; omega
        · rw [hzs] at hf hwf
          have HWF := Lib.hid hwf
          clear hwf hzs
          go_wp2_with fail
          refine (write_u HC2.out HU2.out HLL.out (nk k) (zeros n) (by rw [nk_size]; omega)).mono ?_
          rintro _ w4 ⟨rfl, h4, h4'⟩
          rw [HWF.out.1]
          have h4'' := h4'
          obtain ⟨u', hu', ck', fk'⟩ := h4''.at k hk3
          have H4 := Lib.hid (And.intro h4 h4')
          have hue : u' = u := by rw [hu', HUE.out]
          subst hue
          clear h4 h4' hu' ck fk d0 d1 d2
          go_wp2_with fail
          refine ⟨?_, ?_⟩
          · have e1 : ((u' + n : Nat) : Int) = (u' : Int) + (n : Int) := by omega
            have := room_step (k := k) (v := u' + n) (w' := w4.setCell ⟨U, k, none⟩ (.int .i64 ((u' : Int) + (n : Int)))) hlt1 hlt2 hk3 (H4.out.1.set hUw k _) (by rw [HA0.out, HA1.out, HA2.out, ← e1]; exact H4.out.2.upd k (u' + n) hk3) (fun j => by rw [HWF.out.2.2, HUU.out]) HTT.out (by rw [HWF.out.2.1, HUU.out]; omega) HL.out (by have := len_write st (nk k) (zeros n); omega)
            simpa using this
          · simp [intOf]; omega
    · have hbr : ((i : Int) < (len : Int)) ∧ ¬ (i : Int) < 30 ∨ ¬ (i : Int) < (len : Int) := by omega
      have HQ := Lib.hid (fun n => room_q HC.out n)
      obtain ⟨⟨d0, d1, d2⟩, _, _, _⟩ := HU.out
      have hT := HT.out
      have hst : st.room ≤ 3000 := by omega
      have b0 : usedOf st (nk 0) ≤ 3000 := by omega
      have b1 : usedOf st (nk 1) ≤ 3000 := by omega
      have b2 : usedOf st (nk 2) ≤ 3000 := by omega
      have hfr : (room : Int) - (usedOf st (nk 0) : Int) - (usedOf st (nk 1) : Int) - (usedOf st (nk 2) : Int) = (st.room : Int) := by omega
      obtain ⟨u0, hu0⟩ : ∃ u0, usedOf st (nk 0) = u0 := ⟨_, rfl⟩
      obtain ⟨u1, hu1⟩ : ∃ u1, usedOf st (nk 1) = u1 := ⟨_, rfl⟩
      obtain ⟨u2, hu2⟩ : ∃ u2, usedOf st (nk 2) = u2 := ⟨_, rfl⟩
      rw [hu0] at d0 b0 hfr
      rw [hu1] at d1 b1 hfr
      rw [hu2] at d2 b2 hfr
      have e1 : IntKind.i64.wrap ((room : Int) - (u0 : Int)) = (room : Int) - (u0 : Int) := IntWalk.i64_in _ (by omega)
      have e2 : IntKind.i64.wrap ((room : Int) - (u0 : Int) - (u1 : Int)) = (room : Int) - (u0 : Int) - (u1 : Int) := IntWalk.i64_in _ (by omega)
      have e3 : IntKind.i64.wrap ((room : Int) - (u0 : Int) - (u1 : Int) - (u2 : Int)) = (st.room : Int) := by rw [hfr]; exact IntWalk.i64_in _ (by omega)
      clear hu0 hu1 hu2 hT hlt hi hi30
      rcases hbr with ⟨hb1, hb2⟩ | hb1
      all_goals
        go_wp2_with fail
        go_quiet ((go_at_call 17; exact Calls.quiet_of_same (HQ.out _)))
        go_wp2_with fail
        go_ret
        exact ⟨rfl, ⟨HC.out.2.os, HC.out.2.tape, HC.out.2.output, HC.out.2.size, HC.out.2.block⟩⟩

end Go.Proofs.YtnobbfidngdmhaaDoor
