/-
  JournalFull answers true.
-/
import Derived.Test.YtednmbiiacnpiaaGreatDoorBegun4
import Derived.Test.YtednmbiiacnpiaaGreatDoorJrG
namespace Go.Proofs.YtednmbiiacnpiaaGreatDoor
open Go.RowKit Go.Maps Go.Proofs.MapD Go.Proofs.Chest

/-- A journal all of which is pressed, in a chest of n bytes. -/
def fullSt (n : Nat) (A : List ByteArray) : St := one (n - (leavesS (bE :: A)).size) (leavesS (bE :: A)) (leavesS (bE :: A)).size true
def fullJr (A : List ByteArray) (d : Bool) : Jr := ⟨bE, A, (leavesS (bE :: A)).size, d⟩

theorem full_start (n : Nat) (hn : 11 ≤ n) : openS ⟨n, []⟩ = (0, fullSt n [], fullJr [] false) := by
  have e : leavesS [bE] = leafS ⟨#[]⟩ := leaves_one bE
  rw [open_none n hn]
  unfold fullSt fullJr
  rw [e, leaf0_size]
  rfl

theorem full_snoc (A : List ByteArray) (s : ByteArray) : leavesS (bE :: (A ++ [s])) = leavesS (bE :: A) ++ leafS s := leavesS_snoc (bE :: A) s

theorem full_add (n : Nat) (A : List ByteArray) (s : ByteArray) (hs : s.size ≤ 400000) (h : (leavesS (bE :: A)).size + (leafS s).size ≤ n) : addS (fullSt n A) (fullJr A false) s true = (0, fullSt n (A ++ [s]), fullJr (A ++ [s]) false) := by
  unfold fullSt fullJr
  rw [add_one _ _ _ _ _ _ _ s hs (by omega) true, full_snoc, ByteArray.size_append]
  simp only [if_true]
  rw [Nat.sub_sub]
  rfl

theorem full_no (n : Nat) (A : List ByteArray) (s : ByteArray) (hs : s.size ≤ 400000) (hz : (leavesS (bE :: A)).size ≤ n) (h : n < (leavesS (bE :: A)).size + (leafS s).size) : addS (fullSt n A) (fullJr A false) s true = (5, fullSt n A, fullJr A true) := by
  unfold fullSt fullJr
  rw [add_full _ _ _ _ _ _ _ s hs (by omega) true]

theorem full_small {A : List ByteArray} (h : ∀ x ∈ A, x.size ≤ 60) : ∀ x ∈ bE :: A, x.size ≤ 400000 := by
  intro x hx
  rcases List.mem_cons.1 hx with rfl | hx
  · decide
  · have := h x hx; omega

theorem full_tear (n : Nat) (A : List ByteArray) (h : ∀ x ∈ A, x.size ≤ 60) : ∃ st', openS (tear (fullSt n A) 0) = (0, st', fullJr A false) := by
  unfold fullSt
  rw [tear_one]
  have e : stays ⟨leavesS (bE :: A), (leavesS (bE :: A)).size, true⟩ 0 = (leavesS (bE :: A)).size := by
    unfold stays
    simp
  rw [e, extract_all]
  have := open_one (n - (leavesS (bE :: A)).size + ((leavesS (bE :: A)).size - (leavesS (bE :: A)).size)) (leavesS (bE :: A)).size true bE A ⟨#[]⟩ (full_small h) (.inl rfl)
  rw [append_none] at this
  exact ⟨_, this⟩

theorem full_down (st : St) (A : List ByteArray) (s : ByteArray) (p : Bool) : addS st (fullJr A true) s p = (7, st, fullJr A true) ∧ jpressS st (fullJr A true) = (7, st, fullJr A true) ∧ layS st (fullJr A true) s = (7, st, fullJr A true) := by
  refine ⟨?_, ?_, ?_⟩
  · unfold addS; rw [if_pos (show (fullJr A true).down = true from rfl)]
  · unfold jpressS; rw [if_pos (show (fullJr A true).down = true from rfl)]
  · unfold layS; rw [if_pos (show (fullJr A true).down = true from rfl)]

theorem full_len (n : Nat) (A : List ByteArray) : (fullSt n A).l.length ≤ 900 := (by decide : 1 ≤ 900)

/-- What the loop keeps. -/
def FullRel (len n c j : Nat) (w : World) (uv av iv : Value) (wr : World) : Prop :=
  ∃ (k z : Nat) (A : List ByteArray) (va : Value), va = av ∧ iv = .int .i64 k ∧ k ≤ 20 ∧ k ≤ len ∧ A.length ≤ k ∧ uv = .int .i64 z ∧ z ≤ n ∧ Hid ((leavesS (bE :: A)).size = z ∧ ∀ x ∈ A, x.size ≤ 60) ∧
    Hid (Sp w wr [jc c j (fullSt n A) (fullJr A false), rc va A])

set_option maxRecDepth 100000 in
set_option maxHeartbeats 8000000 in
theorem full_go (n : Nat) (hn1 : 11 ≤ n) (hn2 : n ≤ 300) (v : Value) (len : Nat) (cs : Nat → ByteArray) (b off cap : Nat) (ad : Option Addr) (hv : v = .slice ad len cap) (had : 0 < len → ad = some ⟨b, off, none⟩) (w : World) (hbg : BegunTrue4) (h : LibAt w)
    (hl : len ≤ 9223372036854775807) (hb : 0 < len → b < w.heap.size) (hc : ∀ i, i < len → w.cell? ⟨b, off + i, none⟩ = some (.string (cs i))) :
    Calls Tryz.prog 8 #[.int .i64 (n : Int), v] w fun e w' => e = .returned (.bool true) ∧ Below w.heap.size w w' := by
  subst hv
  have HB := Lib.hid (hbg w h)
  have HL := Lib.hid h
  have HC := Lib.hid hc
  have HBL := Lib.hid hb
  have HAD := Lib.hid had
  have hr1 : ¬ (n : Int) < 11 := by omega
  have hr2 : ¬ 300 < (n : Int) := by omega
  have hr3 : Hid ((min (max (n : Int) 0) 1048576).toNat = n) := Lib.hid (by omega)
  clear hbg h hc hb had
  go_enter Tryz.func8, Tryz.ntmps8
  go_wp2_with fail
  refine HB.out.mono ?_
  rintro _ w1 ⟨rfl, hb1⟩
  have H1 := Lib.hid (Sp.of_below hb1)
  clear hb1
  go_wp2_with fail
  refine (s_new (n : Int) H1.out).mono ?_
  rintro _ w2 ⟨c, rfl, h2⟩
  rw [hr3.out] at h2
  have H2 := Lib.hid h2
  clear h2
  go_wp2_with fail
  refine (s_open_ok H2.out HL.out (Nat.zero_le _) (full_start n hn1)).mono ?_
  rintro _ w3 ⟨j, rfl, h3⟩
  have H3 := Lib.hid (sp_nil h3).swap
  clear h3
  go_wp2_with fail
  go_loopw [9, 10, 11] (fun uv av iv wr => FullRel len n c j w uv av iv wr) (fun _ _ iv _ => 20 - (intOf iv).toNat)
  case atStart => exact ⟨0, 11, [], _, rfl, rfl, by omega, by omega, Nat.le_refl _, rfl, hn1, Lib.hid ⟨by rw [leaves_one]; exact z_E, by simp⟩, H3⟩
  case round =>
    obtain ⟨k, z, A, va, hva, rfl, hk, hkl, hA, rfl, hz, HA, HS⟩ := hrel
    subst hva
    by_cases hin : k < len ∧ k < 20
    · obtain ⟨h1, h2⟩ := hin
      obtain rfl := HAD.out (by omega)
      have hcell : wr.cell? ⟨b, off + k, none⟩ = some (.string (cs k)) := by rw [HS.out.bl.cell (HBL.out (by omega))]; exact HC.out k h1
      have C1 := Lib.hid (cut_any (cs k) 60)
      have hSz := cutS_size (cs k) 60
      generalize cutS (cs k) 60 = S at *
      have j1 : (k : Int) < (len : Int) := by omega
      have j2 : (k : Int) < 20 := by omega
      have LF := Lib.hid (rleaf_p S (by omega))
      obtain ⟨q, hq⟩ : ∃ q, (leafS S).size = q := ⟨_, rfl⟩
      have hq2 : q ≤ 1000000 := by
        rw [← hq, leafS_size (by omega)]
        have := Lib.nDigits_le20 S.size (by omega)
        omega
      by_cases hfit : z + q ≤ n
      · have hfit' : (z : Int) + (q : Int) ≤ (n : Int) := by omega
        have ha := full_add n A S (by omega) (by rw [HA.out.1, hq]; exact hfit)
        have HADD := Lib.hid (s_add HS.out HL.out (full_len n A) (by show A.length ≤ 1000000; omega) (by show (leavesS (bE :: A)).size ≤ 1000000000; rw [HA.out.1]; omega) S true)
        have HE := Lib.hid (show (leavesS (bE :: (A ++ [S]))).size = z + q ∧ ∀ x ∈ A ++ [S], x.size ≤ 60 from ⟨by rw [full_snoc, ByteArray.size_append, HA.out.1, hq], fun x hx => by
          rcases List.mem_append.1 hx with hx | hx
          · exact HA.out.2 x hx
          · obtain rfl : x = S := by simpa using hx
            exact hSz⟩)
        rw [ha] at HADD
        generalize leafS S = LS at *
        clear ha
        go_wp2_with fail
        refine (C1.out _).mono ?_
        rintro _ _ ⟨rfl, rfl⟩
        go_wp2_with fail
        refine HADD.out.mono ?_
        rintro _ w4 ⟨rfl, h4⟩
        have H4 := Lib.hid h4
        clear h4
        go_wp2_with fail
        refine (LF.out w4).mono ?_
        rintro _ w5 ⟨rfl, hb5⟩
        have H5 : Hid (∀ ty, Sp w (w5.alloc (.cells #[.string S] ty)) [rc va A, jc c j (fullSt n (A ++ [S])) (fullJr (A ++ [S]) false)]) := Lib.hid (fun ty => ((H4.out.below hb5).below ((Below.refl _ _).alloc (Nat.le_refl _) _)).swap)
        have hcl : ∀ (W : World) (ty : TypeId), (W.alloc (.cells #[.string S] ty)).cell? ⟨W.heap.size, 0, none⟩ = some (.string S) := by
          intro W ty
          go_simp
        have HCL := Lib.hid hcl
        clear hb5 hcl
        go_wp2_with (at_builtin; refine wpList_append_recs rfl (.tmp 62) (.tmp 64) rfl va A rfl (sp_append (H5.out _)).1 (by omega) ⟨w5.heap.size, 0, none⟩ 1 S rfl (HCL.out _ _) ?_; intro v' w6 h1 h2 h3; have H6 := Lib.hid ((sp_append (H5.out _)).2 v' w6 S h1 h2 h3); clear h1 h2 h3)
        go_roundw
        case rel => exact ⟨k + 1, z + q, A ++ [S], _, rfl, by go_num, by omega, by omega, by simp; omega, by go_num, hfit, HE, Lib.hid H6.out.swap⟩
        case measure => simp [intOf]; omega
      · have hfit' : ¬ (z : Int) + (q : Int) ≤ (n : Int) := by omega
        have ha := full_no n A S (by omega) (by rw [HA.out.1]; exact hz) (by rw [HA.out.1, hq]; omega)
        have HADD := Lib.hid (s_add HS.out HL.out (full_len n A) (by show A.length ≤ 1000000; omega) (by show (leavesS (bE :: A)).size ≤ 1000000000; rw [HA.out.1]; omega) S true)
        rw [ha] at HADD
        generalize leafS S = LS at *
        clear ha
        obtain ⟨d1, d2, d3⟩ := full_down (fullSt n A) A ⟨#[120]⟩ true
        have HD := Lib.hid (And.intro d1 (And.intro d2 d3))
        clear d1 d2 d3
        obtain ⟨st', e7⟩ := full_tear n A HA.out.2
        have HE7 := Lib.hid e7
        clear e7
        go_wp2_with fail
        refine (C1.out _).mono ?_
        rintro _ _ ⟨rfl, rfl⟩
        go_wp2_with fail
        refine HADD.out.mono ?_
        rintro _ w4 ⟨rfl, h4⟩
        have H4 := Lib.hid h4
        clear h4
        go_wp2_with fail
        refine (LF.out w4).mono ?_
        rintro _ w5 ⟨rfl, hb5⟩
        have H5 := Lib.hid (H4.out.below hb5)
        clear hb5
        go_wp2_with fail
        refine (s_jtear H5.out (Nat.le_trans (full_len n A) (by decide)) 0).mono ?_
        rintro _ w6 ⟨d, rfl, h6⟩
        have H6 := Lib.hid h6
        clear h6
        go_wp2_with fail
        refine (s_open_ok H6.out HL.out (Nat.le_trans (len_tear _ _) (full_len n A)) HE7.out).mono ?_
        rintro _ w7 ⟨j2, rfl, h7⟩
        have H7 := Lib.hid h7.swap
        clear h7
        go_wp2_with fail
        refine (s_add H7.out HL.out (full_len n A) (by show A.length ≤ 1000000; omega) (by show (leavesS (bE :: A)).size ≤ 1000000000; rw [HA.out.1]; omega) ⟨#[120]⟩ true).mono ?_
        rintro _ w8 ⟨rfl, h8⟩
        rw [HD.out.1] at h8 ⊢
        have H8 := Lib.hid h8
        clear h8
        go_wp2_with fail
        refine (s_press H8.out).mono ?_
        rintro _ w9 ⟨rfl, h9⟩
        rw [HD.out.2.1] at h9 ⊢
        have H9 := Lib.hid h9
        clear h9
        go_wp2_with fail
        refine (s_lay H9.out HL.out (full_len n A) ⟨#[120]⟩).mono ?_
        rintro _ w10 ⟨rfl, h10⟩
        rw [HD.out.2.2] at h10 ⊢
        have H10 := Lib.hid h10.swap
        clear h10
        go_wp2_with fail
        refine (s_records H10.out (by show A.length ≤ 1000000; omega)).mono ?_
        rintro _ w11 ⟨v1, rfl, hr11, _, h11⟩
        have H11 := Lib.hid (And.intro hr11 h11.rot)
        clear hr11 h11
        go_wp2_with fail
        refine (jeq_p H11.out.1 H11.out.2.recs.reads (by show A.length ≤ 2000000; omega)).mono ?_
        rintro _ w12 ⟨rfl, hb12⟩
        rw [decide_eq_true (show (fullJr A false).recs = A from rfl)]
        have H12 := Lib.hid (H11.out.2.below hb12)
        clear hb12
        go_wp2_with fail
        go_ret
        exact ⟨rfl, H12.out.bl⟩
    · have HEND : Hid (∀ w4, Sp w w4 [jc c j (fullSt n A) (fullJr A false), rc va A] → Below w.heap.size w w4) := Lib.hid (fun w4 h => h.bl)
      by_cases h1 : k < len
      · have h2 : ¬ k < 20 := fun g => hin ⟨h1, g⟩
        have j1 : (k : Int) < (len : Int) := by omega
        have j2 : ¬ (k : Int) < 20 := by omega
        clear hin h1 h2 HC HBL HAD
        go_wp2_with fail
        refine (s_records HS.out (by show A.length ≤ 1000000; omega)).mono ?_
        rintro _ w4 ⟨v1, rfl, hr4, _, h4⟩
        have H4 := Lib.hid (And.intro hr4 h4.swap)
        clear hr4 h4
        go_wp2_with fail
        refine (jeq_p H4.out.1 H4.out.2.recs.reads (by show A.length ≤ 2000000; omega)).mono ?_
        rintro _ w5 ⟨rfl, hb5⟩
        rw [decide_eq_true (show (fullJr A false).recs = A from rfl)]
        have H5 := Lib.hid (H4.out.2.below hb5)
        clear hb5
        go_wp2_with fail
        go_ret
        exact ⟨rfl, H5.out.bl⟩
      · have j1 : ¬ (k : Int) < (len : Int) := by omega
        clear hin h1 HC HBL HAD
        go_wp2_with fail
        refine (s_records HS.out (by show A.length ≤ 1000000; omega)).mono ?_
        rintro _ w4 ⟨v1, rfl, hr4, _, h4⟩
        have H4 := Lib.hid (And.intro hr4 h4.swap)
        clear hr4 h4
        go_wp2_with fail
        refine (jeq_p H4.out.1 H4.out.2.recs.reads (by show A.length ≤ 2000000; omega)).mono ?_
        rintro _ w5 ⟨rfl, hb5⟩
        rw [decide_eq_true (show (fullJr A false).recs = A from rfl)]
        have H5 := Lib.hid (H4.out.2.below hb5)
        clear hb5
        go_wp2_with fail
        go_ret
        exact ⟨rfl, H5.out.bl⟩

set_option maxRecDepth 100000 in
set_option maxHeartbeats 4000000 in
theorem full_out (room : Int) (hr : room < 11 ∨ 300 < room) (v : Value) (w : World) (hbg : BegunTrue4) (h : LibAt w) :
    Calls Tryz.prog 8 #[.int .i64 room, v] w fun e w' => e = .returned (.bool true) ∧ Below w.heap.size w w' := by
  have HB := Lib.hid (hbg w h)
  clear hbg h
  by_cases h1 : room < 11
  · clear hr
    go_enter Tryz.func8, Tryz.ntmps8
    go_wp2_with fail
    refine HB.out.mono ?_
    rintro _ w1 ⟨rfl, hb1⟩
    have H1 := Lib.hid hb1
    clear hb1
    go_wp2_with fail
    go_ret
    exact ⟨rfl, H1.out⟩
  · have h2 : 300 < room := by omega
    clear hr
    go_enter Tryz.func8, Tryz.ntmps8
    go_wp2_with fail
    refine HB.out.mono ?_
    rintro _ w1 ⟨rfl, hb1⟩
    have H1 := Lib.hid hb1
    clear hb1
    go_wp2_with fail
    go_ret
    exact ⟨rfl, H1.out⟩

theorem journalFull_walk (room : Int) (v : Value) (len : Nat) (cs : Nat → ByteArray) (b off cap : Nat) (ad : Option Addr) (hv : v = .slice ad len cap) (had : 0 < len → ad = some ⟨b, off, none⟩) (w : World) (hbg : BegunTrue4) (h : LibAt w)
    (hl : len ≤ 9223372036854775807) (hb : 0 < len → b < w.heap.size) (hc : ∀ i, i < len → w.cell? ⟨b, off + i, none⟩ = some (.string (cs i))) :
    Calls Tryz.prog 8 #[.int .i64 room, v] w fun e w' => e = .returned (.bool true) ∧ Below w.heap.size w w' := by
  by_cases hr : room < 11 ∨ 300 < room
  · exact full_out room hr v w hbg h
  · obtain ⟨n, rfl⟩ : ∃ n : Nat, room = n := ⟨room.toNat, by omega⟩
    exact full_go n (by omega) (by omega) v len cs b off cap ad hv had w hbg h hl hb hc

end Go.Proofs.YtednmbiiacnpiaaGreatDoor
