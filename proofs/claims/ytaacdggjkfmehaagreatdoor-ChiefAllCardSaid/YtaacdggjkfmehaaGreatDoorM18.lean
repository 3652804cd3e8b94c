/-
  Contracts of the program, and what they rest on.
-/
import Derived.Test.YtaacdggjkfmehaaGreatDoorM15
import Derived.Test.YtaacdggjkfmehaaGreatDoorM16
import Derived.Test.YtaacdggjkfmehaaGreatDoorM17
import Derived.Test.YtaacdggjkfmehaaGreatDoorM07
import Derived.LoopTactic
import Derived.Test.YtaacdggjkfmehaaGreatDoorM13
namespace Go.Proofs.YtaacdggjkfmehaaGreatDoor
open Go.RowKit Go.Maps Go.Proofs.MapD Go.Proofs.Chest
def one (room : Nat) (t : ByteArray) (p : Nat) (s : Bool) : St := ⟨room, [(nLOG, ⟨t, p, s⟩)]⟩
theorem log_new : ¬ nLOG = nNEW := by decide
theorem new_log : ¬ nNEW = nLOG := by decide
theorem leaf0_size : (leafS ⟨#[]⟩).size = 11 := by
  rw [leafS_size (by decide)]
  have : Lib.nDigits (⟨#[]⟩ : ByteArray).size = 1 := by
    show Lib.nDigits 0 = 1
    exact Lib.nDigits_small (by decide)
  rw [this]
  rfl
theorem aside_none (room : Nat) : asideS ⟨room, []⟩ = ⟨room, []⟩ := by
  unfold asideS call
  rw [if_neg (by rw [ok_OLD]; decide)]
  rfl
theorem aside_one (room : Nat) (t : ByteArray) (p : Nat) (s : Bool) : asideS (one room t p s) = one room t p s := by
  unfold asideS call
  rw [if_neg (by rw [ok_OLD]; decide)]
  have : get (one room t p s).l nNEW = none := by
    unfold one
    simp [Chest.get, log_new]
  rw [this]
theorem wr_none (room : Nat) (t : ByteArray) (h : t.size ≤ room) (press : Bool) : wrS ⟨room, []⟩ nLOG t press = (0, one (room - t.size) t (if press = true then t.size else 0) press) := by
  unfold wrS
  rw [one_write0 ok_LOG t h]
  cases press with
  | false => rw [if_pos (.inr rfl)]; rfl
  | true =>
    rw [if_neg (by simp)]
    simp only
    rw [one_press]
    rfl
theorem wr_one (room : Nat) (t : ByteArray) (p : Nat) (s : Bool) (x : ByteArray) (h : x.size ≤ room) (press : Bool) :
    wrS (one room t p s) nLOG x press = (0, one (room - x.size) (t ++ x) (if press = true then (t ++ x).size else p) (s || press)) := by
  unfold wrS one
  rw [one_write ok_LOG x h]
  cases press with
  | false => rw [if_pos (.inr rfl)]; simp
  | true =>
    rw [if_neg (by simp)]
    simp only
    rw [one_press]
    simp
theorem open_none (room : Nat) (h : 11 ≤ room) : openS ⟨room, []⟩ = (0, one (room - 11) (leafS ⟨#[]⟩) 11 true, ⟨⟨#[]⟩, [], 11, false⟩) := by
  unfold openS
  rw [aside_none]
  have : get (⟨room, []⟩ : St).l nLOG = none := rfl
  rw [this]
  simp only
  rw [wr_none room _ (by rw [leaf0_size]; exact h), leaf0_size]
  rfl
theorem open_one (room : Nat) (p : Nat) (s : Bool) (f : ByteArray) (l : List ByteArray) (rest : ByteArray) (hl : ∀ x ∈ f :: l, x.size ≤ 400000) (hr : rest.size = 0 ∨ (turnS rest).2.2 = 2) :
    openS (one room (leavesS (f :: l) ++ rest) p s) = (0, if rest.size = 0 then one room (leavesS (f :: l)) p s else one (room + rest.size) (leavesS (f :: l)) (min p (leavesS (f :: l)).size) true, ⟨f, l, (leavesS (f :: l)).size, false⟩) := by
  have hw := (walk_leaves rest (f :: l) _ hl (Nat.le_refl _)).1 hr
  unfold openS
  rw [aside_one]
  have hg : get (one room (leavesS (f :: l) ++ rest) p s).l nLOG = some ⟨leavesS (f :: l) ++ rest, p, s⟩ := one_get
  rw [hg]
  simp only [hw]
  rw [if_neg (by decide)]
  by_cases h0 : rest.size = 0
  · have : rest = ⟨#[]⟩ := empty_of_size h0
    subst this
    rw [append_none, if_neg (by omega), if_pos h0]
  · rw [if_neg h0, if_pos (by rw [ByteArray.size_append]; omega)]
    unfold one
    rw [one_cut _ (by simp only [ByteArray.size_append]; omega)]
    simp only
    rw [extract_fst _ _ _ (Nat.le_refl _), extract_all, ByteArray.size_append, Nat.add_sub_cancel_left]
theorem add_one (room : Nat) (t : ByteArray) (p : Nat) (s : Bool) (f : ByteArray) (l : List ByteArray) (n : Nat) (x : ByteArray) (hx : x.size ≤ 400000) (h : (leafS x).size ≤ room) (press : Bool) :
    addS (one room t p s) ⟨f, l, n, false⟩ x press = (0, one (room - (leafS x).size) (t ++ leafS x) (if press = true then (t ++ leafS x).size else p) (s || press), ⟨f, l ++ [x], n + (leafS x).size, false⟩) := by
  unfold addS
  rw [if_neg (show ¬ (⟨f, l, n, false⟩ : Jr).down = true from Bool.false_ne_true), if_neg (by omega), wr_one _ _ _ _ _ h]
  rfl
theorem repl_one (room : Nat) (t : ByteArray) (p : Nat) (s : Bool) (x : ByteArray) (h : x.size ≤ room) : replS (one room t p s) x = (0, one (room - x.size + t.size) x x.size true) := by
  have hw : wrS (one room t p s) nNEW x true = (0, ⟨room - x.size, [(nNEW, ⟨x, x.size, true⟩), (nLOG, ⟨t, p, s⟩)]⟩) := by
    have h1 : write (one room t p s) nNEW x = (0, ⟨room - x.size, [(nNEW, ⟨x, 0, false⟩), (nLOG, ⟨t, p, s⟩)]⟩) := by
      unfold write
      rw [if_neg (by rw [ok_NEW]; decide), if_neg (by simpa [one] using h)]
      have : get (one room t p s).l nNEW = none := by
        unfold one
        simp [Chest.get, log_new]
      rw [this]
      rfl
    unfold wrS
    rw [h1, if_neg (by simp)]
    unfold Chest.press
    simp [Chest.get, Chest.set, log_new]
  unfold replS
  rw [aside_one, hw, if_neg (show ¬ ((0 : Int) ≠ 0) by decide)]
  unfold call
  rw [if_neg (by rw [ok_LOG]; decide)]
  simp only [Chest.get, if_true, new_log, if_false, Chest.del]
  simp [one, log_new]
theorem lay_one (room : Nat) (t : ByteArray) (p : Nat) (s : Bool) (f : ByteArray) (l : List ByteArray) (n : Nat) (x : ByteArray) (hx : x.size ≤ 400000) (h : (leafS x).size ≤ room) :
    layS (one room t p s) ⟨f, l, n, false⟩ x = (0, one (room - (leafS x).size + t.size) (leafS x) (leafS x).size true, ⟨x, [], (leafS x).size, false⟩) := by
  unfold layS
  rw [if_neg (show ¬ (⟨f, l, n, false⟩ : Jr).down = true from Bool.false_ne_true), if_neg (by omega), repl_one _ _ _ _ _ h]
  rfl
theorem tear_one (room : Nat) (t : ByteArray) (p : Nat) (n : Int) : tear (one room t p true) n = one (room + (t.size - stays ⟨t, p, true⟩ n)) (t.extract 0 (stays ⟨t, p, true⟩ n)) (stays ⟨t, p, true⟩ n) true := by
  unfold tear torn one
  simp
end Go.Proofs.YtaacdggjkfmehaaGreatDoor
namespace Go.Proofs.YtaacdggjkfmehaaGreatDoor
open Go.RowKit Go.Maps Go.Proofs.MapD Go.Proofs.Chest
section
variable {w0 w : World} {c j : Nat} {st : St} {r : Jr} {L : List It}
theorem s_new (room : Int) (h : Sp w0 w L) :
    Calls Tryz.prog 7 #[.int .i64 room] w fun x w' => ∃ c, x = .returned (.pointer (some ⟨c, 0, none⟩)) ∧ Sp w0 w' (ch c ⟨(min (max room 0) 1048576).toNat, []⟩ :: L) :=
  (new_p room w).mono fun _ _ ⟨h1, h2, h3⟩ => ⟨_, h1, h.new (h3.below (Nat.le_refl _) (by simp)) ⟨_, h2, by simp⟩⟩
theorem s_tear (h : Sp w0 w (ch c st :: L)) (hL : st.l.length ≤ 1000000) (n : Int) :
    Calls Tryz.prog 15 #[.pointer (some ⟨c, 0, none⟩), .int .i64 n] w fun x w' => ∃ d, x = .returned (.pointer (some ⟨d, 0, none⟩)) ∧ Sp w0 w' (ch d (tear st n) :: ch c st :: L) := by
  obtain ⟨F, h1⟩ := h.get
  exact (rtear_p h1 hL n).mono fun x w' ⟨h4, F', h5, h6, h7⟩ => ⟨_, h4, h.new h7 ⟨F', h5, h6⟩⟩
theorem s_jtear (h : Sp w0 w (jc c j st r :: L)) (hL : st.l.length ≤ 1000000) (n : Int) :
    Calls Tryz.prog 15 #[.pointer (some ⟨c, 0, none⟩), .int .i64 n] w fun x w' => ∃ d, x = .returned (.pointer (some ⟨d, 0, none⟩)) ∧ Sp w0 w' (ch d (tear st n) :: jc c j st r :: L) := by
  obtain ⟨H, F, G, rfl, hd, hR, hJ⟩ := h.get
  exact (rtear_p hR hL n).mono fun x w' ⟨h4, F', h5, h6, h7⟩ => ⟨_, h4, h.new h7 ⟨F', h5, h6⟩⟩
theorem s_open (h : Sp w0 w (ch c st :: L)) (hlib : LibAt w0) (hL : st.l.length ≤ 900) :
    Calls Tryz.prog 23 #[.pointer (some ⟨c, 0, none⟩)] w fun x w' =>
      ((openS st).1 ≠ 0 ∧ x = .returned (.tuple #[.pointer none, .int .i64 (openS st).1]) ∧ Sp w0 w' (ch c (openS st).2.1 :: L)) ∨
      ((openS st).1 = 0 ∧ ∃ j, x = .returned (.tuple #[.pointer (some ⟨j, 0, none⟩), .int .i64 0]) ∧ Sp w0 w' (jc c j (openS st).2.1 (openS st).2.2 :: L)) := by
  obtain ⟨F, h1, hF, k⟩ := h.turn
  refine (open_p h1 hL ⟨hlib, h.bl, hF⟩).mono ?_
  rintro x w' (⟨h2, h3, h4⟩ | ⟨h2, j, H, h3, h4⟩)
  · exact .inl ⟨h2, h3, k (ch c (openS st).2.1) w' h4⟩
  · exact .inr ⟨h2, j, h3, k (jc c j (openS st).2.1 (openS st).2.2) w' ⟨H, h4⟩⟩
theorem s_open_ok {st' : St} {r' : Jr} (h : Sp w0 w (ch c st :: L)) (hlib : LibAt w0) (hL : st.l.length ≤ 900) (ho : openS st = (0, st', r')) :
    Calls Tryz.prog 23 #[.pointer (some ⟨c, 0, none⟩)] w fun x w' => ∃ j, x = .returned (.tuple #[.pointer (some ⟨j, 0, none⟩), .int .i64 0]) ∧ Sp w0 w' (jc c j st' r' :: L) := by
  refine (s_open h hlib hL).mono ?_
  rw [ho]
  rintro x w' (⟨h2, _⟩ | ⟨_, j, h3, h4⟩)
  · exact absurd rfl h2
  · exact ⟨j, h3, h4⟩
theorem s_add (h : Sp w0 w (jc c j st r :: L)) (hlib : LibAt w0) (hL : st.l.length ≤ 900) (hr : r.recs.length ≤ 1000000) (hl : r.long ≤ 1000000000) (s : ByteArray) (p : Bool) :
    Calls Tryz.prog 60 #[.pointer (some ⟨j, 0, none⟩), .string s, .bool p] w fun x w' => x = .returned (.int .i64 (addS st r s p).1) ∧ Sp w0 w' (jc c j (addS st r s p).2.1 (addS st r s p).2.2 :: L) := by
  obtain ⟨H, h1, _, k⟩ := h.turn
  exact (jadd_p h1 hL hr hl s p (hlib.below h.bl)).mono fun x w' ⟨h4, h5⟩ => ⟨h4, k (jc c j (addS st r s p).2.1 (addS st r s p).2.2) w' h5⟩
theorem s_lay (h : Sp w0 w (jc c j st r :: L)) (hlib : LibAt w0) (hL : st.l.length ≤ 900) (s : ByteArray) :
    Calls Tryz.prog 58 #[.pointer (some ⟨j, 0, none⟩), .string s] w fun x w' => x = .returned (.int .i64 (layS st r s).1) ∧ Sp w0 w' (jc c j (layS st r s).2.1 (layS st r s).2.2 :: L) := by
  obtain ⟨H, h1, _, k⟩ := h.turn
  exact (jlay_p h1 hL s (hlib.below h.bl)).mono fun x w' ⟨h4, h5⟩ => ⟨h4, k (jc c j (layS st r s).2.1 (layS st r s).2.2) w' h5⟩
theorem s_first (h : Sp w0 w (jc c j st r :: L)) : Calls Tryz.prog 51 #[.pointer (some ⟨j, 0, none⟩)] w fun x w' => x = .returned (.string r.first) ∧ w = w' := by
  obtain ⟨H, h1⟩ := h.get
  exact jfirst_p h1
theorem s_long (h : Sp w0 w (jc c j st r :: L)) : Calls Tryz.prog 57 #[.pointer (some ⟨j, 0, none⟩)] w fun x w' => x = .returned (.int .i64 r.long) ∧ w = w' := by
  obtain ⟨H, h1⟩ := h.get
  exact jlong_p h1
theorem s_records (h : Sp w0 w (jc c j st r :: L)) (hr : r.recs.length ≤ 1000000) :
    Calls Tryz.prog 53 #[.pointer (some ⟨j, 0, none⟩)] w fun x w' => ∃ v, x = .returned v ∧ Reads w' v r.recs ∧ Below w.heap.size w w' ∧ Sp w0 w' (jc c j st r :: L) := by
  obtain ⟨H, h1⟩ := h.get
  exact (jrecords_p h1 hr).mono fun x w' ⟨v, h4, h5, h6⟩ => ⟨v, h4, h5, h6, h.below h6⟩
end
end Go.Proofs.YtaacdggjkfmehaaGreatDoor
namespace Go.Proofs.YtaacdggjkfmehaaGreatDoor
open Go.RowKit Go.Maps Go.Proofs.MapD Go.Proofs.Chest
theorem take_eq_succ {a b : List ByteArray} {k : Nat} {x y : ByteArray} (hx : a[k]? = some x) (hy : b[k]? = some y) (h : a.take k = b.take k) : a.take (k + 1) = b.take (k + 1) ↔ x = y := by
  obtain ⟨ha, rfl⟩ := List.getElem?_eq_some_iff.1 hx
  obtain ⟨hb, rfl⟩ := List.getElem?_eq_some_iff.1 hy
  rw [List.take_succ_eq_append_getElem ha, List.take_succ_eq_append_getElem hb, h]
  constructor
  · intro e
    have := List.append_cancel_left e
    simpa using this
  · intro e
    rw [e]
set_option maxRecDepth 100000 in
set_option maxHeartbeats 4000000 in
theorem jeq_p {w : World} {va vb : Value} {a b : List ByteArray} (ha : Reads w va a) (hb : Reads w vb b) (hla : a.length ≤ 2000000) :
    Calls Tryz.prog 71 #[va, vb] w fun x w' => x = .returned (.bool (decide (a = b))) ∧ Below w.heap.size w w' := by
  obtain ⟨ada, capa, rfl, hca⟩ := ha
  obtain ⟨adb, capb, rfl, hcb⟩ := hb
  by_cases hl : a.length = b.length
  · have hl' : ((a.length : Int) != (b.length : Int)) = false := by rw [bne_eq_false_iff_eq]; omega
    obtain ⟨R, hR⟩ : ∃ R, decide (a = b) = R := ⟨_, rfl⟩
    rw [hR]
    have HR := Lib.hid hR
    have HA := Lib.hid (And.intro hca hcb)
    clear hR hca hcb
    go_enter Tryz.func71, Tryz.ntmps71
    go_wp2_with fail
    go_loopw [5] (fun iv wr => ∃ k : Nat, k ≤ a.length ∧ iv = .int .i64 k ∧ Hid (a.take k = b.take k) ∧ Below w.heap.size w wr) (fun iv _ => a.length - (intOf iv).toNat)
    case atStart => exact ⟨0, Nat.zero_le _, rfl, Lib.hid (by simp), Below.refl _ _⟩
    case round =>
      obtain ⟨k, hk, rfl, HP, hB⟩ := hrel
      by_cases hlt : k < a.length
      · have hlt' : (k : Int) < (a.length : Int) := by omega
        have hlt2 : (k : Int) < (b.length : Int) := by omega
        obtain ⟨g, o, rfl, c1, hc⟩ := HA.out.1 (by omega)
        obtain ⟨g2, o2, rfl, c2, hc2⟩ := HA.out.2 (by omega)
        obtain ⟨x, ea⟩ : ∃ x, a[k]? = some x := ⟨_, List.getElem?_eq_getElem hlt⟩
        obtain ⟨y, eb⟩ : ∃ y, b[k]? = some y := ⟨_, List.getElem?_eq_getElem (by omega)⟩
        have q1 : wr.cell? ⟨g, o + k, none⟩ = some (.string x) := by
          have := hc k x ea
          rw [hB.cell (World.block_lt_of_cell? w _ this)]
          exact this
        have q2 : wr.cell? ⟨g2, o2 + k, none⟩ = some (.string y) := by
          have := hc2 k y eb
          rw [hB.cell (World.block_lt_of_cell? w _ this)]
          exact this
        have HB := Lib.hid hB
        have hk0 : 0 ≤ (k : Int) := by omega
        by_cases hxy : x = y
        · subst hxy
          have HS := Lib.hid ((take_eq_succ ea eb HP.out).2 rfl)
          clear hc hc2 ea eb hB
          go_wp2_with fail
          go_region
          go_wp2_with fail
          go_roundw
          case rel => exact ⟨k + 1, by omega, by go_num, HS, HB.out.drew⟩
          case measure => simp [intOf]; omega
        · have hne := not_toList hxy
          have hRf : R = false := by
            rw [← HR.out]
            refine decide_eq_false (fun e => hxy ?_)
            rw [e, eb] at ea
            exact (Option.some.inj ea).symm
          subst hRf
          clear hc hc2 ea eb hB hxy
          go_wp2_with fail
          go_region
          go_wp2_with fail
          go_ret
          exact ⟨rfl, HB.out.drew⟩
      · have hlt' : ¬ (k : Int) < (a.length : Int) := by omega
        have hRt : R = true := by
          rw [← HR.out]
          refine decide_eq_true ?_
          have h1 := HP.out
          rw [List.take_of_length_le (by omega), List.take_of_length_le (by omega)] at h1
          exact h1
        subst hRt
        have HB := Lib.hid hB
        clear hB
        go_wp2_with fail
        go_ret
        exact ⟨rfl, HB.out⟩
  · have hl' : ((a.length : Int) != (b.length : Int)) = true := by rw [bne_iff_ne]; omega
    have hne : decide (a = b) = false := decide_eq_false (fun e => hl (by rw [e]))
    rw [hne]
    clear hca hcb hne
    go_enter Tryz.func71, Tryz.ntmps71
    go_wp2_with fail
    go_ret
    exact ⟨rfl, Below.refl _ _⟩
end Go.Proofs.YtaacdggjkfmehaaGreatDoor
namespace Go.Proofs.YtaacdggjkfmehaaGreatDoor
open Go.RowKit Go.Maps Go.Proofs.MapD Go.Proofs.Chest
def numsF : List Int → F
  | [] => .nil
  | n :: l => .cons 1 n ⟨#[]⟩ .nil (numsF l)
theorem numsF_len : ∀ l : List Int, (numsF l).len = l.length
  | [] => rfl
  | _ :: r => by simp only [numsF, F.len, numsF_len r, List.length_cons]
theorem numsF_cnt : ∀ l : List Int, (numsF l).cnt = l.length
  | [] => rfl
  | _ :: r => by simp only [numsF, F.cnt, numsF_cnt r, List.length_cons]; omega
theorem numsF_dep : ∀ l : List Int, (numsF l).dep ≤ 1
  | [] => Nat.zero_le _
  | _ :: r => by have := numsF_dep r; simp only [numsF, F.dep]; omega
theorem numsF_ok : ∀ l : List Int, (numsF l).ok = true
  | [] => rfl
  | n :: r => by
    show (pureB 1 n ⟨#[]⟩ 0 && true && (numsF r).ok) = true
    rw [numsF_ok r]
    unfold pureB
    rw [if_pos rfl, ByteArray.toList_eq]
    rfl
theorem pure3 (len : Nat) : pureB 3 0 ⟨#[]⟩ len = true := by
  unfold pureB
  rw [if_neg (by decide), if_neg (by decide), if_pos rfl, ByteArray.toList_eq]
  rfl
def I64 (n : Int) : Prop := -9223372036854775808 ≤ n ∧ n ≤ 9223372036854775807
theorem numsF_wf : ∀ l : List Int, (∀ x ∈ l, I64 x) → (numsF l).wf
  | [], _ => trivial
  | _ :: r, h => ⟨h _ (by simp), trivial, numsF_wf r (fun x hx => h x (by simp [hx]))⟩
def nums (r : Ro) : List Int := r.ep :: r.nw :: r.l
def txtR (r : Ro) : ByteArray := putV 3 0 ⟨#[]⟩ (numsF (nums r))
theorem nums_may (l : List Int) (h : l.length ≤ 5000) : vmay 3 0 ⟨#[]⟩ (numsF l) = true := by
  have h1 := numsF_dep l
  have h2 := numsF_cnt l
  unfold vmay vmayB
  rw [numsF_ok, pure3, decide_eq_true (by omega), decide_eq_true (by omega)]
  rfl
theorem nums_put (l : List Int) (h : l.length ≤ 5000) : putS 3 0 ⟨#[]⟩ (numsF l) = putV 3 0 ⟨#[]⟩ (numsF l) := by
  unfold putS
  rw [nums_may l h, if_pos rfl]
theorem small_dec {n : Int} (h : 0 ≤ n ∧ n ≤ 1099511627776) : 1 ≤ (decS n).size ∧ (decS n).size ≤ 13 := by
  obtain ⟨u, rfl⟩ : ∃ u : Nat, n = u := ⟨n.toNat, by omega⟩
  have h1 := itoa_len (u : Int) (by omega) (by omega)
  have h2 : (decS (u : Int)).size = (Lib.itoa (u : Int)).length := by
    have := congrArg List.length (decS_list (u : Int))
    exact this
  have h3 : (Lib.itoa (u : Int)).length ≤ 13 := by
    rcases itoa_form (u : Int) with ⟨k, e, e2⟩ | ⟨k, h4, e, _⟩
    · rw [e2, Lib.decDigits_length]
      exact nd_le 13 k (by omega) (by omega)
    · omega
  omega
theorem num_len {n : Int} (h : 0 ≤ n ∧ n ≤ 1099511627776) : 1 ≤ (putV 1 n ⟨#[]⟩ .nil).size ∧ (putV 1 n ⟨#[]⟩ .nil).size ≤ 17 := by
  have h1 := small_dec h
  unfold putV
  rw [if_pos rfl, frameS_len _ _ (by omega)]
  have h2 : (⟨#[35]⟩ : ByteArray).size = 1 := rfl
  have h3 := nd_le 2 (decS n).size (by omega) (by omega)
  omega
theorem nums_len : ∀ (l : List Int) (acc : ByteArray), (∀ x ∈ l, 0 ≤ x ∧ x ≤ 1099511627776) → acc.size + 17 * l.length ≤ 9999999 → ∃ t, putF (numsF l) acc = some t ∧ t.size ≤ acc.size + 17 * l.length
  | [], acc, _, _ => ⟨acc, rfl, by simp⟩
  | n :: l, acc, h, hs => by
    have h1 := num_len (h n (by simp))
    simp only [List.length_cons] at hs
    have e : putF (numsF (n :: l)) acc = putF (numsF l) (acc ++ putV 1 n ⟨#[]⟩ .nil) := by
      show putF (.cons 1 n ⟨#[]⟩ .nil (numsF l)) acc = _
      rw [putF_cons, if_neg (by omega)]
    obtain ⟨t, h2, h3⟩ := nums_len l (acc ++ putV 1 n ⟨#[]⟩ .nil) (fun x hx => h x (by simp [hx])) (by rw [ByteArray.size_append]; omega)
    refine ⟨t, by rw [e]; exact h2, ?_⟩
    rw [ByteArray.size_append] at h3
    simp only [List.length_cons]
    omega
theorem may_nums {r : Ro} (h : mayR r = true) : (∀ x ∈ nums r, 0 ≤ x ∧ x ≤ 1099511627776) ∧ 3 ≤ (nums r).length ∧ (nums r).length ≤ 7 := by
  obtain ⟨e, l, nw⟩ := r
  have h1 := mayR_len h
  obtain ⟨h2, h3⟩ := mayR_ns h
  have h4 := ((mayNs_iff l).1 h2).2.1
  refine ⟨fun x hx => ?_, by simp [nums]; omega, by simp [nums]; omega⟩
  simp only [nums, List.mem_cons] at hx
  rcases hx with rfl | rfl | hx
  · omega
  · unfold mayW at h3
    rw [Bool.or_eq_true, Bool.and_eq_true] at h3
    rcases h3 with h3 | ⟨h3, h5⟩
    · have := of_decide_eq_true h3; omega
    · have h3 := of_decide_eq_true h3
      have h5 := of_decide_eq_true h5
      have : tailI l ∈ l := by
        unfold tailI getI
        rw [if_pos (by omega)]
        rw [List.getD_eq_getElem?_getD, List.getElem?_eq_getElem (by omega)]
        exact List.getElem_mem _
      have := h4 _ this
      omega
  · have := h4 x hx; omega
theorem txt_size {r : Ro} (h : mayR r = true) : 1 ≤ (txtR r).size ∧ (txtR r).size ≤ 130 := by
  obtain ⟨h1, h2, h3⟩ := may_nums h
  obtain ⟨t, h4, h5⟩ := nums_len (nums r) ⟨#[]⟩ h1 (by have : (⟨#[]⟩ : ByteArray).size = 0 := rfl; omega)
  have h0 : (⟨#[]⟩ : ByteArray).size = 0 := rfl
  unfold txtR putV
  rw [if_neg (by decide), if_neg (by decide), h4]
  simp only
  rw [frameS_len _ _ (by omega)]
  have h6 := nd_le 3 t.size (by omega) (by omega)
  have h7 : (⟨#[93]⟩ : ByteArray).size = 1 := rfl
  omega
theorem may_wf {r : Ro} (h : mayR r = true) : (numsF (nums r)).wf := numsF_wf _ (fun x hx => by have := (may_nums h).1 x hx; unfold I64; omega)
theorem txt_read {r : Ro} (h : mayR r = true) : ∃ c, allR (txtR r) = .ok ⟨3, 0, ⟨#[]⟩, numsF (nums r), (txtR r).size, c⟩ := by
  have h1 := txt_size h
  have h2 := trip_p 3 0 ⟨#[]⟩ (numsF (nums r)) (nums_may _ (by have := (may_nums h).2; omega)) (by omega) (may_wf h) (show ¬ (txtR r).size = 0 by omega) ⟨#[]⟩
  rw [append_none] at h2
  refine ⟨1 + (numsF (nums r)).cnt, ?_⟩
  unfold allR
  rw [show getR (txtR r) = _ from h2]
  simp only
  rw [if_pos (show (putV 3 0 ⟨#[]⟩ (numsF (nums r))).size = (txtR r).size from rfl)]
  rfl
def folS (a b : Ro) : Bool :=
  if a.ep = 0 then decide (b.nw = 0) else
    (List.range 5).any (fun k : Nat => eqR b (addR a (k + 1 : Nat)).1 || eqR b (dropR a (k + 1 : Nat)).1) || (decide (a.nw ≠ 0) && eqR b ⟨a.ep, a.l, 0⟩)
theorem eqR_refl (a : Ro) : eqR a a = true := by simp [eqR]
theorem fol_add {a : Ro} {n : Int} (hn : 1 ≤ n ∧ n ≤ 5) (ha : a.ep ≠ 0) : folS a (addR a n).1 = true := by
  unfold folS
  rw [if_neg ha, Bool.or_eq_true]
  left
  rw [List.any_eq_true]
  obtain ⟨k, hk⟩ : ∃ k : Nat, n = ((k + 1 : Nat) : Int) := ⟨(n - 1).toNat, by omega⟩
  refine ⟨k, by simp; omega, ?_⟩
  rw [hk, eqR_refl]
  rfl
theorem fol_drop {a : Ro} {n : Int} (hn : 1 ≤ n ∧ n ≤ 5) (ha : a.ep ≠ 0) : folS a (dropR a n).1 = true := by
  unfold folS
  rw [if_neg ha, Bool.or_eq_true]
  left
  rw [List.any_eq_true]
  obtain ⟨k, hk⟩ : ∃ k : Nat, n = ((k + 1 : Nat) : Int) := ⟨(n - 1).toNat, by omega⟩
  refine ⟨k, by simp; omega, ?_⟩
  rw [hk, eqR_refl, Bool.or_true]
theorem fol_full {a : Ro} (ha : a.ep ≠ 0) (hn : a.nw ≠ 0) : folS a ⟨a.ep, a.l, 0⟩ = true := by
  unfold folS
  rw [if_neg ha, Bool.or_eq_true]
  right
  rw [eqR_refl, decide_eq_true hn]
  rfl
def baseT : Option Ro → ByteArray
  | none => ⟨#[]⟩
  | some b => txtR b
def baseR : Option Ro → Ro
  | none => Ro.zero
  | some b => b
def jtext (b : Option Ro) (rs : List Ro) : ByteArray := leavesS (baseT b :: rs.map txtR)
def jst (R : Nat) (b : Option Ro) (rs : List Ro) : St := one (R - (jtext b rs).size) (jtext b rs) (jtext b rs).size true
def jjr (b : Option Ro) (rs : List Ro) : Jr := ⟨baseT b, rs.map txtR, (jtext b rs).size, false⟩
def okc : Ro → List Ro → Prop
  | _, [] => True
  | a, b :: l => mayR b = true ∧ folS a b = true ∧ okc b l
def lastC : Ro → List Ro → Ro
  | a, [] => a
  | _, b :: l => lastC b l
theorem okc_snoc : ∀ (l : List Ro) (a b : Ro), okc a l → mayR b = true → folS (lastC a l) b = true → okc a (l ++ [b])
  | [], _, _, _, h1, h2 => ⟨h1, h2, trivial⟩
  | _ :: l, _, b, ⟨h3, h4, h5⟩, h1, h2 => ⟨h3, h4, okc_snoc l _ b h5 h1 h2⟩
theorem lastC_snoc : ∀ (l : List Ro) (a b : Ro), lastC a (l ++ [b]) = b
  | [], _, _ => rfl
  | _ :: l, _, b => lastC_snoc l _ b
structure JG (b : Option Ro) (rs : List Ro) (r : Ro) : Prop where
  base : ∀ x, b = some x → mayR x = true
  chain : okc (baseR b) rs
  last : lastC (baseR b) rs = r
  size : (jtext b rs).size ≤ 700
  len : rs.length ≤ 700
def wrR (b : Option Ro) (rs : List Ro) (r : Ro) : Option Ro × List Ro := if 500 < (jtext b rs).size then (some r, []) else (b, rs ++ [r])
theorem leaf_len {s : ByteArray} (h : s.size ≤ 130) : 11 ≤ (leafS s).size ∧ (leafS s).size ≤ 150 := by
  rw [leafS_size (by omega)]
  have := nd_le 3 s.size (by omega) (by omega)
  have := Lib.nDigits_pos s.size
  omega
theorem base_size {b : Option Ro} (h : ∀ x, b = some x → mayR x = true) : (baseT b).size ≤ 130 := by
  cases b with
  | none => exact Nat.zero_le _
  | some x => exact (txt_size (h x rfl)).2
theorem leaves_snoc : ∀ (l : List ByteArray) (x : ByteArray), leavesS (l ++ [x]) = leavesS l ++ leafS x
  | [], x => by
    show leafS x ++ (⟨#[]⟩ : ByteArray) = (⟨#[]⟩ : ByteArray) ++ leafS x
    apply ByteArray.ext
    apply Array.ext'
    rw [append_toList, append_toList]
    simp
  | y :: l, x => by
    show leafS y ++ leavesS (l ++ [x]) = (leafS y ++ leavesS l) ++ leafS x
    rw [leaves_snoc l x, ByteArray.append_assoc]
theorem jtext_snoc (b : Option Ro) (rs : List Ro) (r : Ro) : jtext b (rs ++ [r]) = jtext b rs ++ leafS (txtR r) := by
  unfold jtext
  rw [List.map_append, ← List.cons_append]
  exact leaves_snoc _ _
theorem JG.start : JG none [] Ro.zero := ⟨by simp, trivial, rfl, by
  unfold jtext
  show (leavesS [⟨#[]⟩]).size ≤ 700
  rw [leaves_one, leaf0_size]
  omega, by simp⟩
theorem len_leaves : ∀ l : List ByteArray, (∀ x ∈ l, x.size ≤ 130) → l.length ≤ (leavesS l).size
  | [], _ => Nat.zero_le _
  | x :: l, h => by
    have h1 := leaf_len (h x (by simp))
    have h2 := len_leaves l (fun y hy => h y (by simp [hy]))
    show l.length + 1 ≤ (leafS x ++ leavesS l).size
    rw [ByteArray.size_append]
    omega
theorem okc_may : ∀ (l : List Ro) (a : Ro), okc a l → ∀ x ∈ l, mayR x = true
  | b :: l, a, ⟨h1, _, h3⟩, x, hx => by
    rcases List.mem_cons.1 hx with rfl | hx
    · exact h1
    · exact okc_may l b h3 x hx
theorem JG.wr {b : Option Ro} {rs : List Ro} {a r : Ro} (h : JG b rs a) (hm : mayR r = true) (hf : folS a r = true) : JG (wrR b rs r).1 (wrR b rs r).2 r := by
  have hl := leaf_len (txt_size hm).2
  unfold wrR
  by_cases hs : 500 < (jtext b rs).size
  · rw [if_pos hs]
    refine ⟨fun x hx => (Option.some.inj hx) ▸ hm, trivial, rfl, ?_, by simp⟩
    show (leavesS [txtR r]).size ≤ 700
    rw [leaves_one]
    omega
  · rw [if_neg hs]
    have hz : (jtext b (rs ++ [r])).size ≤ 700 := by
      rw [jtext_snoc, ByteArray.size_append]
      omega
    have hc := okc_snoc rs _ r h.chain hm (by rw [h.last]; exact hf)
    refine ⟨h.base, hc, lastC_snoc _ _ _, hz, ?_⟩
    have := len_leaves (baseT b :: (rs ++ [r]).map txtR) (fun x hx => by
      rcases List.mem_cons.1 hx with rfl | hx
      · exact base_size h.base
      · obtain ⟨y, hy, rfl⟩ := List.mem_map.1 hx
        exact (txt_size (okc_may _ _ hc y hy)).2)
    simp only [List.length_cons, List.length_map] at this
    have e : (jtext b (rs ++ [r])).size = (leavesS (baseT b :: (rs ++ [r]).map txtR)).size := rfl
    show (rs ++ [r]).length ≤ 700
    omega
theorem jst_one (R : Nat) (b : Option Ro) (rs : List Ro) : (jst R b rs).l.length = 1 := rfl
theorem wr_add {R : Nat} {b : Option Ro} {rs : List Ro} {a r : Ro} (h : JG b rs a) (hR : 2000 ≤ R) (hm : mayR r = true) (hs : ¬ 500 < (jtext b rs).size) :
    addS (jst R b rs) (jjr b rs) (txtR r) true = (0, jst R b (rs ++ [r]), jjr b (rs ++ [r])) := by
  have h1 := txt_size hm
  have hl := leaf_len h1.2
  have h3 := h.size
  unfold jst jjr
  rw [add_one _ _ _ _ _ _ _ _ (by omega) (by omega), if_pos rfl, ← jtext_snoc, List.map_append]
  have e : (jtext b (rs ++ [r])).size = (jtext b rs).size + (leafS (txtR r)).size := by rw [jtext_snoc, ByteArray.size_append]
  rw [show R - (jtext b rs).size - (leafS (txtR r)).size = R - (jtext b (rs ++ [r])).size by omega, ← e]
  rfl
theorem wr_lay {R : Nat} {b : Option Ro} {rs : List Ro} {a r : Ro} (h : JG b rs a) (hR : 2000 ≤ R) (hm : mayR r = true) :
    layS (jst R b rs) (jjr b rs) (txtR r) = (0, jst R (some r) [], jjr (some r) []) := by
  have h1 := txt_size hm
  have hl := leaf_len h1.2
  have h3 := h.size
  have e : jtext (some r) [] = leafS (txtR r) := leaves_one _
  unfold jst jjr
  rw [lay_one _ _ _ _ _ _ _ _ (by omega) (by omega), e, show R - (jtext b rs).size - (leafS (txtR r)).size + (jtext b rs).size = R - (leafS (txtR r)).size by omega]
  rfl
theorem jst_tear (R : Nat) (b : Option Ro) (rs : List Ro) (n : Int) : tear (jst R b rs) n = jst R b rs := by
  have e : stays ⟨jtext b rs, (jtext b rs).size, true⟩ n = (jtext b rs).size := by
    unfold stays
    simp
    omega
  unfold jst
  rw [tear_one, e, extract_all, Nat.sub_self, Nat.add_zero]
theorem jst_open {R : Nat} {b : Option Ro} {rs : List Ro} {a : Ro} (h : JG b rs a) : openS (jst R b rs) = (0, jst R b rs, jjr b rs) := by
  have h1 := open_one (R - (jtext b rs).size) (jtext b rs).size true (baseT b) (rs.map txtR) ⟨#[]⟩ (fun x hx => by
    rcases List.mem_cons.1 hx with rfl | hx
    · have := base_size h.base; omega
    · obtain ⟨y, hy, rfl⟩ := List.mem_map.1 hx
      have := (txt_size (okc_may _ _ h.chain y hy)).2
      omega) (.inl rfl)
  rw [append_none, if_pos (show (⟨#[]⟩ : ByteArray).size = 0 from rfl)] at h1
  exact h1
theorem jst_new (R : Nat) (h : 11 ≤ R) : openS ⟨R, []⟩ = (0, jst R none [], jjr none []) := by
  rw [open_none R h]
  have e : jtext none [] = leafS ⟨#[]⟩ := leaves_one _
  unfold jst jjr
  rw [e, leaf0_size]
  rfl
structure Cs where
  r : Ro
  nx : Ro
  un : Int
  hd : List Int
  asks : Int
  lost : Bool
def Cs.chg (s : Cs) : Bool := decide (0 < s.nx.ep)
def allH (now : Int) : List Int := [now, now, now, now, now, now]
def enterS (s : Cs) (r : Ro) (now : Int) : Cs := ⟨r, Ro.zero, s.un, allH now, 0, s.lost⟩
def beginS (r : Ro) (now un : Int) : Cs := ⟨r, Ro.zero, un, allH now, 0, false⟩
def silentS (hd : List Int) (now : Int) : List Int → Int
  | [] => 0
  | n :: l => if hd.getD n.toNat 0 < now - 9 then n else silentS hd now l
def findS (s : Cs) (now : Int) : Cs :=
  if silentS s.hd now s.r.l = 0 then ⟨s.r, (addR s.r s.asks).1, s.un, s.hd, s.asks, false⟩
  else ⟨s.r, (dropR s.r (silentS s.hd now s.r.l)).1, s.un, s.hd, s.asks, !(dropR s.r (silentS s.hd now s.r.l)).2⟩
def tickS (s : Cs) (now : Int) : Cs := if s.chg then (if s.un < now then enterS s s.nx now else s) else findS s now
def beatS (s : Cs) (n now : Int) : Cs × Option (Int × Int) :=
  if hasI s.r.l n then (if s.chg then (⟨s.r, s.nx, s.un, s.hd.set n.toNat now, s.asks, s.lost⟩, none) else (⟨s.r, s.nx, max s.un (now + 6), s.hd.set n.toNat now, s.asks, s.lost⟩, some (n, now + 6)))
  else (⟨s.r, s.nx, s.un, s.hd, n, s.lost⟩, none)
def fullS (s : Cs) (n ep : Int) : Cs := if n = s.r.nw ∧ ep = s.r.ep ∧ s.chg = false then ⟨⟨s.r.ep, s.r.l, 0⟩, s.nx, s.un, s.hd, s.asks, s.lost⟩ else s
def stepS (s : Cs) (k n to ep now : Int) : Cs × Option (Int × Int) :=
  if to ≠ 0 ∨ n < 1 ∨ 5 < n then (s, none) else if k = 1 then beatS s n now else if k = 11 then (fullS s n ep, none) else (s, none)
end Go.Proofs.YtaacdggjkfmehaaGreatDoor
namespace Go.Proofs.YtaacdggjkfmehaaGreatDoor
open Go.RowKit Go.Maps Go.Proofs.MapD Go.Proofs.Chest
theorem chkR_cases (r : Ro) : chkR r = (r, true) ∧ mayR r = true ∨ chkR r = (Ro.zero, false) := by
  unfold chkR
  cases h : mayR r with
  | true => exact .inl ⟨rfl, rfl⟩
  | false => exact .inr rfl
theorem addR_cases (r : Ro) (n : Int) : (addR r n = (⟨r.ep + 1, r.l ++ [n], n⟩, true) ∧ mayR ⟨r.ep + 1, r.l ++ [n], n⟩ = true ∧ mayR r = true ∧ r.nw = 0 ∧ 1 ≤ n ∧ n ≤ 5) ∨ addR r n = (Ro.zero, false) := by
  unfold addR
  cases h : mayR r && decide (r.nw = 0) with
  | false => exact .inr rfl
  | true =>
    rw [Bool.and_eq_true] at h
    have h2 := of_decide_eq_true h.2
    rw [if_pos rfl]
    rcases chkR_cases ⟨r.ep + 1, r.l ++ [n], n⟩ with ⟨h3, h4⟩ | h3
    · have := (snoc_mayNs (mayR_ns h4).1).1
      exact .inl ⟨h3, h4, h.1, h2, this⟩
    · exact .inr h3
theorem ixN_mem {l : List Int} {n : Int} {k : Nat} (h : ixN l n = some k) : n ∈ l := by
  obtain ⟨hk, he, _⟩ := List.findIdx?_eq_some_iff_getElem.1 h
  have : l[k] = n := by simpa using he
  exact this ▸ List.getElem_mem hk
theorem may_mem {r : Ro} (h : mayR r = true) {n : Int} (hn : n ∈ r.l) : 1 ≤ n ∧ n ≤ 5 := ((mayNs_iff r.l).1 (mayR_ns (e := r.ep) (nw := r.nw) h).1).2.1 n hn
theorem dropR_cases (r : Ro) (n : Int) : ((dropR r n).2 = true ∧ mayR (dropR r n).1 = true ∧ mayR r = true ∧ 1 ≤ n ∧ n ≤ 5 ∧ (dropR r n).1.ep = r.ep + 1) ∨ dropR r n = (Ro.zero, false) := by
  unfold dropR
  cases h : ixN r.l n with
  | none => exact .inr rfl
  | some k =>
    simp only
    cases hm : mayR r with
    | false => exact .inr rfl
    | true =>
      rw [if_pos rfl]
      rcases chkR_cases ⟨r.ep + 1, r.l.take k ++ r.l.drop (k + 1), if r.nw = n then 0 else r.nw⟩ with ⟨h3, h4⟩ | h3
      · rw [h3]
        have := may_mem hm (ixN_mem h)
        exact .inl ⟨rfl, h4, rfl, this.1, this.2, rfl⟩
      · exact .inr h3
theorem may_ep {r : Ro} (h : mayR r = true) : 1 ≤ r.ep ∧ r.ep ≤ 1099511627776 := by
  have := mayR_len (e := r.ep) (l := r.l) (nw := r.nw) h
  omega
structure GS (s : Cs) (b : Option Ro) (rs : List Ro) : Prop where
  may : mayR s.r = true
  jg : JG b rs s.r
  nx : s.nx = Ro.zero ∨ (mayR s.nx = true ∧ folS s.r s.nx = true)
  hd : s.hd.length = 6
theorem GS.find {s : Cs} {b : Option Ro} {rs : List Ro} (h : GS s b rs) (now : Int) : GS (findS s now) b rs := by
  have hep : s.r.ep ≠ 0 := by have := may_ep h.may; omega
  unfold findS
  split
  · refine ⟨h.may, h.jg, ?_, h.hd⟩
    rcases addR_cases s.r s.asks with ⟨h1, h2, _, _, h3⟩ | h1
    · rw [h1]
      exact .inr ⟨h2, by have := fol_add h3 hep; rw [h1] at this; exact this⟩
    · rw [h1]
      exact .inl rfl
  · refine ⟨h.may, h.jg, ?_, h.hd⟩
    rcases dropR_cases s.r (silentS s.hd now s.r.l) with ⟨h1, h2, _, h3, h4, _⟩ | h1
    · exact .inr ⟨h2, fol_drop ⟨h3, h4⟩ hep⟩
    · rw [h1]
      exact .inl rfl
theorem GS.enter {s : Cs} {b : Option Ro} {rs : List Ro} (h : GS s b rs) (hc : s.chg = true) (now : Int) : mayR s.nx = true ∧ folS s.r s.nx = true ∧ GS (enterS s s.nx now) (wrR b rs s.nx).1 (wrR b rs s.nx).2 := by
  rcases h.nx with h1 | ⟨h1, h2⟩
  · unfold Cs.chg at hc
    rw [h1] at hc
    cases hc
  · exact ⟨h1, h2, h1, h.jg.wr h1 h2, .inl rfl, rfl⟩
theorem GS.beat {s : Cs} {b : Option Ro} {rs : List Ro} (h : GS s b rs) (n now : Int) : GS (beatS s n now).1 b rs := by
  unfold beatS
  split
  · split
    · exact ⟨h.may, h.jg, h.nx, by simpa using h.hd⟩
    · exact ⟨h.may, h.jg, h.nx, by simpa using h.hd⟩
  · exact ⟨h.may, h.jg, h.nx, h.hd⟩
theorem GS.learn {s : Cs} {b : Option Ro} {rs : List Ro} (h : GS s b rs) (hc : s.chg = false) (hn : s.r.nw ≠ 0) :
    mayR ⟨s.r.ep, s.r.l, 0⟩ = true ∧ folS s.r ⟨s.r.ep, s.r.l, 0⟩ = true ∧ GS ⟨⟨s.r.ep, s.r.l, 0⟩, s.nx, s.un, s.hd, s.asks, s.lost⟩ (wrR b rs ⟨s.r.ep, s.r.l, 0⟩).1 (wrR b rs ⟨s.r.ep, s.r.l, 0⟩).2 := by
  have h1 := mayR_learn h.may
  have h2 := fol_full (a := s.r) (by have := may_ep h.may; omega) hn
  refine ⟨h1, h2, h1, h.jg.wr h1 h2, ?_, h.hd⟩
  rcases h.nx with h3 | ⟨h3, h4⟩
  · exact .inl h3
  · have := (may_ep h3).1
    unfold Cs.chg at hc
    have := of_decide_eq_false hc
    omega
theorem GS.begin {r : Ro} {b : Option Ro} {rs : List Ro} (hm : mayR r = true) (h : JG b rs r) (now un : Int) : GS (beginS r now un) b rs := ⟨hm, h, .inl rfl, rfl⟩
end Go.Proofs.YtaacdggjkfmehaaGreatDoor
