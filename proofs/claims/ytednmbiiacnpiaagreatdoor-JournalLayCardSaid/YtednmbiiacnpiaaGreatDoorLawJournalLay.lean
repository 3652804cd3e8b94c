/-
  JournalLay answers true.
-/
import Derived.Test.YtednmbiiacnpiaaGreatDoorBegun4
import Derived.Test.YtednmbiiacnpiaaGreatDoorJrG
namespace Go.Proofs.YtednmbiiacnpiaaGreatDoor
open Go.RowKit Go.Maps Go.Proofs.MapD Go.Proofs.Chest

/-- A journal all of which is pressed, in a chest of n bytes. -/
def fullSt (n : Nat) (A : List ByteArray) : St := one (n - (leavesS (bE :: A)).size) (leavesS (bE :: A)) (leavesS (bE :: A)).size true
def fullJr (A : List ByteArray) (d : Bool) : Jr := ⟨bE, A, (leavesS (bE :: A)).size, d⟩

theorem full_start (n : Nat) (hn : 11 ≤ n) : openS ⟨n, []⟩ = (0, fullSt n [], fullJr [] false) := by
  have e : leavesS [bE] = leafS ⟨#[]⟩ := leaves_one bE
  rw [open_none n hn]
  unfold fullSt fullJr
  rw [e, leaf0_size]
  rfl

theorem full_snoc (A : List ByteArray) (s : ByteArray) : leavesS (bE :: (A ++ [s])) = leavesS (bE :: A) ++ leafS s := leavesS_snoc (bE :: A) s

theorem full_add (n : Nat) (A : List ByteArray) (s : ByteArray) (hs : s.size ≤ 400000) (h : (leavesS (bE :: A)).size + (leafS s).size ≤ n) : addS (fullSt n A) (fullJr A false) s true = (0, fullSt n (A ++ [s]), fullJr (A ++ [s]) false) := by
  unfold fullSt fullJr
  rw [add_one _ _ _ _ _ _ _ s hs (by omega) true, full_snoc, ByteArray.size_append]
  simp only [if_true]
  rw [Nat.sub_sub]
  rfl

theorem full_small {A : List ByteArray} (h : ∀ x ∈ A, x.size ≤ 60) : ∀ x ∈ bE :: A, x.size ≤ 400000 := by
  intro x hx
  rcases List.mem_cons.1 hx with rfl | hx
  · decide
  · have := h x hx; omega

theorem full_len (n : Nat) (A : List ByteArray) : (fullSt n A).l.length ≤ 900 := (by decide : 1 ≤ 900)

theorem old_log : ¬ nOLD = nLOG := by decide
theorem old_new : ¬ nOLD = nNEW := by decide

/-- Open, where LOG is whole leaves. -/
theorem open_get {st : St} {f : ByteArray} {l : List ByteArray} {p : Nat} {sf : Bool} (hg : get (asideS st).l nLOG = some ⟨leavesS (f :: l), p, sf⟩) (hl : ∀ x ∈ f :: l, x.size ≤ 400000) :
    openS st = (0, asideS st, ⟨f, l, (leavesS (f :: l)).size, false⟩) := by
  have hw := (walk_leaves ⟨#[]⟩ (f :: l) _ hl (Nat.le_refl _)).1 (.inl rfl)
  rw [append_none] at hw
  unfold openS
  rw [hg]
  simp only [hw]
  rw [if_neg (by decide), if_neg (by omega)]

def two (room : Nat) (m : ByteArray) (x y : Rl) : St := ⟨room, [(m, x), (nLOG, y)]⟩

theorem lay_write (n : Nat) (A : List ByteArray) (H : ByteArray) (h : H.size ≤ n - (leavesS (bE :: A)).size) :
    write (fullSt n A) nNEW H = (0, two (n - (leavesS (bE :: A)).size - H.size) nNEW ⟨H, 0, false⟩ ⟨leavesS (bE :: A), (leavesS (bE :: A)).size, true⟩) := by
  unfold write
  rw [if_neg (by rw [ok_NEW]; decide), if_neg (by show ¬ n - (leavesS (bE :: A)).size < H.size; omega)]
  have : get (fullSt n A).l nNEW = none := by
    unfold fullSt one
    simp [Chest.get, log_new]
  rw [this]
  rfl

theorem aside_two (room : Nat) (x y : Rl) : asideS (two room nNEW x y) = two room nOLD ⟨x.t, x.p, true⟩ y := by
  unfold asideS call
  rw [if_neg (by rw [ok_OLD]; decide)]
  unfold two
  simp [Chest.get, Chest.del, new_old, log_new, log_old]

theorem aside_none2 {st : St} (h : get st.l nNEW = none) : asideS st = st := by
  unfold asideS call
  rw [if_neg (by rw [ok_OLD]; decide), h]

theorem get_two (room : Nat) (m : ByteArray) (hm : ¬ m = nLOG) (x y : Rl) : get (two room m x y).l nLOG = some y := by
  unfold two
  simp [Chest.get, hm]

theorem stays_full (t : ByteArray) (s : Bool) (n : Int) : stays ⟨t, t.size, s⟩ n = t.size := by
  unfold stays
  simp only [Nat.sub_self, Nat.zero_add, Nat.mod_one, Nat.add_zero]

/-- Torn: LOG is all there. -/
theorem lay_tear (room : Nat) (H : ByteArray) (A : List ByteArray) (hA : ∀ x ∈ A, x.size ≤ 60) (n : Int) :
    ∃ st', openS (tear (two room nNEW ⟨H, 0, false⟩ ⟨leavesS (bE :: A), (leavesS (bE :: A)).size, true⟩) n) = (0, st', fullJr A false) := by
  have hl : torn ⟨leavesS (bE :: A), (leavesS (bE :: A)).size, true⟩ n = some ⟨leavesS (bE :: A), (leavesS (bE :: A)).size, true⟩ := by
    unfold torn
    rw [if_pos (.inr rfl), stays_full, extract_all]
  have h1 : get (asideS (tear (two room nNEW ⟨H, 0, false⟩ ⟨leavesS (bE :: A), (leavesS (bE :: A)).size, true⟩) n)).l nLOG = some ⟨leavesS (bE :: A), (leavesS (bE :: A)).size, true⟩ := by
    unfold tear two
    simp only [List.filterMap_cons, List.filterMap_nil, hl, Option.map_some]
    cases torn ⟨H, 0, false⟩ n with
    | none =>
      simp only [Option.map_none]
      rw [aside_none2 (by simp [Chest.get, log_new])]
      simp [Chest.get]
    | some y =>
      simp only [Option.map_some]
      exact (congrArg (fun s : St => get s.l nLOG) (aside_two _ y _)).trans (get_two _ _ old_log _ _)
  exact ⟨_, open_get h1 (full_small hA)⟩

theorem lay_open (room : Nat) (H : ByteArray) (A : List ByteArray) (hA : ∀ x ∈ A, x.size ≤ 60) :
    openS (two room nNEW ⟨H, 0, false⟩ ⟨leavesS (bE :: A), (leavesS (bE :: A)).size, true⟩) = (0, two room nOLD ⟨H, 0, true⟩ ⟨leavesS (bE :: A), (leavesS (bE :: A)).size, true⟩, fullJr A false) := by
  have e := aside_two room ⟨H, 0, false⟩ ⟨leavesS (bE :: A), (leavesS (bE :: A)).size, true⟩
  rw [open_get (by rw [e]; exact get_two _ _ old_log _ _) (full_small hA), e]
  rfl

def laid (room : Nat) (s H : ByteArray) : St := ⟨room, [(nLOG, ⟨leafS s, (leafS s).size, true⟩), (nOLD, ⟨H, 0, true⟩)]⟩

theorem lay_lay (room : Nat) (H s : ByteArray) (A : List ByteArray) (hs : s.size ≤ 400000) (h : (leafS s).size ≤ room) :
    ∃ room', layS (two room nOLD ⟨H, 0, true⟩ ⟨leavesS (bE :: A), (leavesS (bE :: A)).size, true⟩) (fullJr A false) s = (0, laid room' s H, ⟨s, [], (leafS s).size, false⟩) := by
  have e0 : asideS (two room nOLD ⟨H, 0, true⟩ ⟨leavesS (bE :: A), (leavesS (bE :: A)).size, true⟩) = two room nOLD ⟨H, 0, true⟩ ⟨leavesS (bE :: A), (leavesS (bE :: A)).size, true⟩ := by
    apply aside_none2
    unfold two
    simp [Chest.get, old_new, log_new]
  have hw : wrS (two room nOLD ⟨H, 0, true⟩ ⟨leavesS (bE :: A), (leavesS (bE :: A)).size, true⟩) nNEW (leafS s) true = (0, ⟨room - (leafS s).size, [(nNEW, ⟨leafS s, (leafS s).size, true⟩), (nOLD, ⟨H, 0, true⟩), (nLOG, ⟨leavesS (bE :: A), (leavesS (bE :: A)).size, true⟩)]⟩) := by
    have h1 : write (two room nOLD ⟨H, 0, true⟩ ⟨leavesS (bE :: A), (leavesS (bE :: A)).size, true⟩) nNEW (leafS s) = (0, ⟨room - (leafS s).size, [(nNEW, ⟨leafS s, 0, false⟩), (nOLD, ⟨H, 0, true⟩), (nLOG, ⟨leavesS (bE :: A), (leavesS (bE :: A)).size, true⟩)]⟩) := by
      unfold write
      rw [if_neg (by rw [ok_NEW]; decide), if_neg (by show ¬ room < (leafS s).size; omega)]
      have : get (two room nOLD ⟨H, 0, true⟩ ⟨leavesS (bE :: A), (leavesS (bE :: A)).size, true⟩).l nNEW = none := by
        unfold two
        simp [Chest.get, old_new, log_new]
      rw [this]
      rfl
    unfold wrS
    rw [h1, if_neg (by simp)]
    unfold Chest.press
    simp [Chest.get, Chest.set, log_new, old_new]
  have hr : ∃ room', replS (two room nOLD ⟨H, 0, true⟩ ⟨leavesS (bE :: A), (leavesS (bE :: A)).size, true⟩) (leafS s) = (0, laid room' s H) := by
    unfold replS
    rw [e0, hw, if_neg (show ¬ ((0 : Int) ≠ 0) by decide)]
    unfold call
    rw [if_neg (by rw [ok_LOG]; decide)]
    refine ⟨room - (leafS s).size + (leavesS (bE :: A)).size, ?_⟩
    simp [Chest.get, Chest.del, laid, new_log, old_new, log_new, old_log]
  obtain ⟨room', hr⟩ := hr
  refine ⟨room', ?_⟩
  unfold layS
  rw [if_neg (show ¬ (fullJr A false).down = true from Bool.false_ne_true), if_neg (by omega), hr]
  rfl

theorem lay_tear2 (room : Nat) (s H : ByteArray) (hs : s.size ≤ 400000) (n : Int) : ∃ st', openS (tear (laid room s H) n) = (0, st', ⟨s, [], (leafS s).size, false⟩) := by
  have hl : torn ⟨leafS s, (leafS s).size, true⟩ n = some ⟨leafS s, (leafS s).size, true⟩ := by
    unfold torn
    rw [if_pos (.inr rfl), stays_full, extract_all]
  have e1 : asideS (tear (laid room s H) n) = tear (laid room s H) n := by
    apply aside_none2
    unfold tear laid
    simp only [List.filterMap_cons, List.filterMap_nil, hl, Option.map_some]
    cases torn ⟨H, 0, true⟩ n with
    | none => simp [Chest.get, log_new]
    | some y => simp [Chest.get, log_new, old_new]
  have h1 : get (asideS (tear (laid room s H) n)).l nLOG = some ⟨leavesS [s], (leafS s).size, true⟩ := by
    rw [e1]
    unfold tear laid
    simp only [List.filterMap_cons, List.filterMap_nil, hl, Option.map_some]
    rw [leaves_one]
    simp [Chest.get]
  have := open_get h1 (by intro x hx; simp at hx; subst hx; exact hs)
  rw [leaves_one] at this
  exact ⟨_, this⟩

theorem len_two (room : Nat) (m : ByteArray) (x y : Rl) : (two room m x y).l.length ≤ 900 := (by decide : 2 ≤ 900)
theorem len_laid (room : Nat) (s H : ByteArray) : (laid room s H).l.length ≤ 900 := (by decide : 2 ≤ 900)

theorem Sp.unj {w0 w : World} {c j : Nat} {st : St} {r : Jr} {L : List It} (h : Sp w0 w (jc c j st r :: L)) : Sp w0 w (ch c st :: L) := by
  obtain ⟨H, ⟨F, G, rfl, _, hR, _⟩, _, k⟩ := h.turn
  exact k (ch c st) w ⟨F, hR, fun k hk => .inl (by simp [hk]), Only.refl _ _⟩

/-- What the loop keeps. -/
def LayRel (len c j : Nat) (w : World) (av iv : Value) (wr : World) : Prop :=
  ∃ (k z : Nat) (A : List ByteArray) (va : Value), va = av ∧ iv = .int .i64 k ∧ k ≤ 8 ∧ k ≤ len ∧ A.length ≤ k ∧ z ≤ 11 + 100 * k ∧ Hid ((leavesS (bE :: A)).size = z ∧ ∀ x ∈ A, x.size ≤ 60) ∧
    Hid (Sp w wr [jc c j (fullSt 1048576 A) (fullJr A false), rc va A])

set_option maxRecDepth 100000 in
set_option maxHeartbeats 8000000 in
theorem journalLay_walk (v : Value) (len : Nat) (cs : Nat → ByteArray) (b off cap : Nat) (ad : Option Addr) (hv : v = .slice ad len cap) (had : 0 < len → ad = some ⟨b, off, none⟩) (s half : ByteArray) (n : Int) (w : World) (hbg : BegunTrue4) (h : LibAt w)
    (hl : len ≤ 9223372036854775807) (hb : 0 < len → b < w.heap.size) (hc : ∀ i, i < len → w.cell? ⟨b, off + i, none⟩ = some (.string (cs i))) :
    Calls Tryz.prog 7 #[v, .string s, .string half, .int .i64 n] w fun e w' => e = .returned (.bool true) ∧ Below w.heap.size w w' := by
  subst hv
  have HB := Lib.hid (hbg w h)
  have HL := Lib.hid h
  have HC := Lib.hid hc
  have HBL := Lib.hid hb
  have HAD := Lib.hid had
  have C1 := Lib.hid (cut_any s 100)
  have C2 := Lib.hid (cut_any half 40)
  have hS := cutS_size s 100
  have hHF := cutS_size half 40
  generalize cutS s 100 = S at *
  generalize cutS half 40 = HF at *
  have hr3 : Hid ((min (max (1048576 : Int) 0) 1048576).toNat = 1048576) := Lib.hid (by omega)
  have HQ : Hid ((leafS S).size ≤ 200) := Lib.hid (by
    rw [leafS_size (by omega)]
    have := Lib.nDigits_le20 S.size (by omega)
    omega)
  have RL := Lib.hid (rleaf_p S (by omega))
  clear hbg h hc hb had
  go_enter Tryz.func7, Tryz.ntmps7
  go_wp2_with fail
  refine HB.out.mono ?_
  rintro _ w1 ⟨rfl, hb1⟩
  have H1 := Lib.hid (Sp.of_below hb1)
  clear hb1
  go_wp2_with fail
  refine (C1.out _).mono ?_
  rintro _ _ ⟨rfl, rfl⟩
  go_wp2_with fail
  refine (s_new 1048576 H1.out).mono ?_
  rintro _ w2 ⟨c, rfl, h2⟩
  rw [hr3.out] at h2
  have H2 := Lib.hid h2
  clear h2
  go_wp2_with fail
  refine (s_open_ok H2.out HL.out (Nat.zero_le _) (full_start 1048576 (by omega))).mono ?_
  rintro _ w3 ⟨j, rfl, h3⟩
  have H3 := Lib.hid (sp_nil h3).swap
  clear h3
  go_wp2_with fail
  go_loopw [13, 14] (fun av iv wr => LayRel len c j w av iv wr) (fun _ iv _ => 8 - (intOf iv).toNat)
  case atStart => exact ⟨0, 11, [], _, rfl, rfl, by omega, by omega, Nat.le_refl _, by omega, Lib.hid ⟨by rw [leaves_one]; exact z_E, by simp⟩, H3⟩
  case round =>
    obtain ⟨k, z, A, va, hva, rfl, hk, hkl, hA, hz, HA, HS⟩ := hrel
    subst hva
    by_cases hin : k < len ∧ k < 8
    · obtain ⟨h1, h2⟩ := hin
      obtain rfl := HAD.out (by omega)
      have hcell : wr.cell? ⟨b, off + k, none⟩ = some (.string (cs k)) := by rw [HS.out.bl.cell (HBL.out (by omega))]; exact HC.out k h1
      have C3 := Lib.hid (cut_any (cs k) 40)
      have hSz := cutS_size (cs k) 40
      generalize cutS (cs k) 40 = X at *
      have j1 : (k : Int) < (len : Int) := by omega
      have j2 : (k : Int) < 8 := by omega
      obtain ⟨q, hq⟩ : ∃ q, (leafS X).size = q := ⟨_, rfl⟩
      have hq2 : q ≤ 100 := by
        rw [← hq, leafS_size (by omega)]
        have := Lib.nDigits_le20 X.size (by omega)
        omega
      have ha := full_add 1048576 A X (by omega) (by rw [HA.out.1, hq]; omega)
      have HADD := Lib.hid (s_add HS.out HL.out (full_len _ A) (by show A.length ≤ 1000000; omega) (by show (leavesS (bE :: A)).size ≤ 1000000000; rw [HA.out.1]; omega) X true)
      have HE := Lib.hid (show (leavesS (bE :: (A ++ [X]))).size = z + q ∧ ∀ x ∈ A ++ [X], x.size ≤ 60 from ⟨by rw [full_snoc, ByteArray.size_append, HA.out.1, hq], fun x hx => by
        rcases List.mem_append.1 hx with hx | hx
        · exact HA.out.2 x hx
        · obtain rfl : x = X := by simpa using hx
          omega⟩)
      rw [ha] at HADD
      clear ha hq
      go_wp2_with fail
      refine (C3.out _).mono ?_
      rintro _ _ ⟨rfl, rfl⟩
      go_wp2_with fail
      refine HADD.out.mono ?_
      rintro _ w4 ⟨rfl, h4⟩
      have H5 : Hid (∀ ty, Sp w (w4.alloc (.cells #[.string X] ty)) [rc va A, jc c j (fullSt 1048576 (A ++ [X])) (fullJr (A ++ [X]) false)]) := Lib.hid (fun ty => (h4.below ((Below.refl _ _).alloc (Nat.le_refl _) _)).swap)
      have hcl : ∀ (W : World) (ty : TypeId), (W.alloc (.cells #[.string X] ty)).cell? ⟨W.heap.size, 0, none⟩ = some (.string X) := by
        intro W ty
        go_simp
      have HCL := Lib.hid hcl
      clear h4 hcl
      go_wp2_with (at_builtin; refine wpList_append_recs rfl (.tmp 51) (.tmp 53) rfl va A rfl (sp_append (H5.out _)).1 (by omega) ⟨w4.heap.size, 0, none⟩ 1 X rfl (HCL.out _ _) ?_; intro v' w6 h1 h2 h3; have H6 := Lib.hid ((sp_append (H5.out _)).2 v' w6 X h1 h2 h3); clear h1 h2 h3)
      go_roundw
      case rel => exact ⟨k + 1, z + q, A ++ [X], _, rfl, by go_num, by omega, by omega, by simp; omega, by omega, HE, Lib.hid H6.out.swap⟩
      case measure => simp [intOf]; omega
    · by_cases h1 : k < len
      · have h2 : ¬ k < 8 := fun g => hin ⟨h1, g⟩
        have j1 : (k : Int) < (len : Int) := by omega
        have j2 : ¬ (k : Int) < 8 := by omega
        clear hin h1 h2 HC HBL HAD
        go_wp2_with fail
        refine (C2.out _).mono ?_
        rintro _ _ ⟨rfl, rfl⟩
        go_wp2_with fail
        refine (s_jwrite HS.out (Nat.le_trans (full_len _ _) (by decide)) nNEW HF (by decide)).mono ?_
        rintro _ w4 ⟨rfl, h4⟩
        rw [lay_write 1048576 A HF (by rw [HA.out.1]; omega)] at h4 ⊢
        have H4 := Lib.hid h4
        clear h4
        go_wp2_with fail
        refine (s_jtear H4.out (Nat.le_trans (len_two _ _ _ _) (by decide)) n).mono ?_
        rintro _ w5 ⟨d, rfl, h5⟩
        have H5 := Lib.hid h5
        clear h5
        go_wp2_with fail
        obtain ⟨st5, e5⟩ := lay_tear (1048576 - (leavesS (bE :: A)).size - HF.size) HF A HA.out.2 n
        refine (s_open_ok H5.out HL.out (Nat.le_trans (len_tear _ _) (len_two _ _ _ _)) e5).mono ?_
        rintro _ w6 ⟨j2, rfl, h6⟩
        have H6 := Lib.hid h6
        clear h6 e5
        go_wp2_with fail
        refine (s_first H6.out).mono ?_
        rintro _ _ ⟨e, rfl⟩
        rw [show (Ending.returned (Value.string (fullJr A false).first)) = .returned (.string ⟨#[]⟩) from rfl] at e
        subst e
        go_wp2_with fail
        refine (s_records H6.out (by show A.length ≤ 1000000; omega)).mono ?_
        rintro _ w7 ⟨v1, rfl, hr7, _, h7⟩
        have H7 := Lib.hid (And.intro hr7 h7.rot)
        clear hr7 h7
        go_wp2_with fail
        refine (jeq_p H7.out.1 H7.out.2.recs.reads (by show A.length ≤ 2000000; omega)).mono ?_
        rintro _ w8 ⟨rfl, hb8⟩
        rw [decide_eq_true (show (fullJr A false).recs = A from rfl)]
        have H8 := Lib.hid (H7.out.2.below hb8).rot.unj
        clear hb8
        go_wp2_with fail
        refine (s_open_ok H8.out HL.out (len_two _ _ _ _) (lay_open _ HF A HA.out.2)).mono ?_
        rintro _ w9 ⟨j3, rfl, h9⟩
        have H9 := Lib.hid h9
        clear h9
        go_wp2_with fail
        obtain ⟨room', e10⟩ := lay_lay (1048576 - (leavesS (bE :: A)).size - HF.size) HF S A (by omega) (by rw [HA.out.1]; have := HQ.out; omega)
        refine (s_lay H9.out HL.out (len_two _ _ _ _) S).mono ?_
        rintro _ w10 ⟨rfl, h10⟩
        rw [e10] at h10 ⊢
        have H10 := Lib.hid h10
        clear h10 e10
        go_wp2_with fail
        refine (s_jtear H10.out (Nat.le_trans (len_laid _ _ _) (by decide)) n).mono ?_
        rintro _ w11 ⟨d2, rfl, h11⟩
        have H11 := Lib.hid h11
        clear h11
        go_wp2_with fail
        obtain ⟨st11, e11⟩ := lay_tear2 room' S HF (by omega) n
        refine (s_open_ok H11.out HL.out (Nat.le_trans (len_tear _ _) (len_laid _ _ _)) e11).mono ?_
        rintro _ w12 ⟨j4, rfl, h12⟩
        have H12 := Lib.hid h12
        clear h12 e11
        go_wp2_with fail
        refine (s_first H12.out).mono ?_
        rintro _ _ ⟨e, rfl⟩
        rw [show (Ending.returned (Value.string (⟨S, [], (leafS S).size, false⟩ : Jr).first)) = .returned (.string S) from rfl] at e
        subst e
        go_wp2_with fail
        refine (s_records H12.out (Nat.zero_le _)).mono ?_
        rintro _ w13 ⟨v3, rfl, ⟨ad3, cap3, rfl, _⟩, _, h13⟩
        have H13 := Lib.hid h13.swap
        clear h13
        go_wp2_with fail
        refine (s_long H13.out).mono ?_
        rintro _ _ ⟨e, rfl⟩
        rw [show (Ending.returned (Value.int .i64 (((⟨S, [], (leafS S).size, false⟩ : Jr).long : Nat) : Int))) = .returned (.int .i64 ((leafS S).size : Nat)) from rfl] at e
        subst e
        go_wp2_with fail
        refine (RL.out _).mono ?_
        rintro _ w14 ⟨rfl, hb14⟩
        have H14 := Lib.hid (H13.out.below hb14)
        clear hb14
        go_wp2_with fail
        go_ret
        exact ⟨rfl, H14.out.bl⟩
      · have j1 : ¬ (k : Int) < (len : Int) := by omega
        clear hin h1 HC HBL HAD
        go_wp2_with fail
        refine (C2.out _).mono ?_
        rintro _ _ ⟨rfl, rfl⟩
        go_wp2_with fail
        refine (s_jwrite HS.out (Nat.le_trans (full_len _ _) (by decide)) nNEW HF (by decide)).mono ?_
        rintro _ w4 ⟨rfl, h4⟩
        rw [lay_write 1048576 A HF (by rw [HA.out.1]; omega)] at h4 ⊢
        have H4 := Lib.hid h4
        clear h4
        go_wp2_with fail
        refine (s_jtear H4.out (Nat.le_trans (len_two _ _ _ _) (by decide)) n).mono ?_
        rintro _ w5 ⟨d, rfl, h5⟩
        have H5 := Lib.hid h5
        clear h5
        go_wp2_with fail
        obtain ⟨st5, e5⟩ := lay_tear (1048576 - (leavesS (bE :: A)).size - HF.size) HF A HA.out.2 n
        refine (s_open_ok H5.out HL.out (Nat.le_trans (len_tear _ _) (len_two _ _ _ _)) e5).mono ?_
        rintro _ w6 ⟨j2, rfl, h6⟩
        have H6 := Lib.hid h6
        clear h6 e5
        go_wp2_with fail
        refine (s_first H6.out).mono ?_
        rintro _ _ ⟨e, rfl⟩
        rw [show (Ending.returned (Value.string (fullJr A false).first)) = .returned (.string ⟨#[]⟩) from rfl] at e
        subst e
        go_wp2_with fail
        refine (s_records H6.out (by show A.length ≤ 1000000; omega)).mono ?_
        rintro _ w7 ⟨v1, rfl, hr7, _, h7⟩
        have H7 := Lib.hid (And.intro hr7 h7.rot)
        clear hr7 h7
        go_wp2_with fail
        refine (jeq_p H7.out.1 H7.out.2.recs.reads (by show A.length ≤ 2000000; omega)).mono ?_
        rintro _ w8 ⟨rfl, hb8⟩
        rw [decide_eq_true (show (fullJr A false).recs = A from rfl)]
        have H8 := Lib.hid (H7.out.2.below hb8).rot.unj
        clear hb8
        go_wp2_with fail
        refine (s_open_ok H8.out HL.out (len_two _ _ _ _) (lay_open _ HF A HA.out.2)).mono ?_
        rintro _ w9 ⟨j3, rfl, h9⟩
        have H9 := Lib.hid h9
        clear h9
        go_wp2_with fail
        obtain ⟨room', e10⟩ := lay_lay (1048576 - (leavesS (bE :: A)).size - HF.size) HF S A (by omega) (by rw [HA.out.1]; have := HQ.out; omega)
        refine (s_lay H9.out HL.out (len_two _ _ _ _) S).mono ?_
        rintro _ w10 ⟨rfl, h10⟩
        rw [e10] at h10 ⊢
        have H10 := Lib.hid h10
        clear h10 e10
        go_wp2_with fail
        refine (s_jtear H10.out (Nat.le_trans (len_laid _ _ _) (by decide)) n).mono ?_
        rintro _ w11 ⟨d2, rfl, h11⟩
        have H11 := Lib.hid h11
        clear h11
        go_wp2_with fail
        obtain ⟨st11, e11⟩ := lay_tear2 room' S HF (by omega) n
        refine (s_open_ok H11.out HL.out (Nat.le_trans (len_tear _ _) (len_laid _ _ _)) e11).mono ?_
        rintro _ w12 ⟨j4, rfl, h12⟩
        have H12 := Lib.hid h12
        clear h12 e11
        go_wp2_with fail
        refine (s_first H12.out).mono ?_
        rintro _ _ ⟨e, rfl⟩
        rw [show (Ending.returned (Value.string (⟨S, [], (leafS S).size, false⟩ : Jr).first)) = .returned (.string S) from rfl] at e
        subst e
        go_wp2_with fail
        refine (s_records H12.out (Nat.zero_le _)).mono ?_
        rintro _ w13 ⟨v3, rfl, ⟨ad3, cap3, rfl, _⟩, _, h13⟩
        have H13 := Lib.hid h13.swap
        clear h13
        go_wp2_with fail
        refine (s_long H13.out).mono ?_
        rintro _ _ ⟨e, rfl⟩
        rw [show (Ending.returned (Value.int .i64 (((⟨S, [], (leafS S).size, false⟩ : Jr).long : Nat) : Int))) = .returned (.int .i64 ((leafS S).size : Nat)) from rfl] at e
        subst e
        go_wp2_with fail
        refine (RL.out _).mono ?_
        rintro _ w14 ⟨rfl, hb14⟩
        have H14 := Lib.hid (H13.out.below hb14)
        clear hb14
        go_wp2_with fail
        go_ret
        exact ⟨rfl, H14.out.bl⟩

end Go.Proofs.YtednmbiiacnpiaaGreatDoor
