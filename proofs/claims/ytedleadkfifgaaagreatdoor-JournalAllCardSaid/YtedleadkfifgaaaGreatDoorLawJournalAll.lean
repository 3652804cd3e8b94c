/-
  JournalAll answers true: records added, pressed, laid anew, torn, plainly; the loop.
-/
import Derived.Test.YtedleadkfifgaaaGreatDoorBegun4
import Derived.Test.YtedleadkfifgaaaGreatDoorJrG
namespace Go.Proofs.YtedleadkfifgaaaGreatDoor
open Go.RowKit Go.Maps Go.Proofs.MapD Go.Proofs.Chest

/-- A journal of which so many records are pressed. -/
def allSt (f : ByteArray) (A : List ByteArray) (sure : Nat) : St := one (1048576 - (leavesS (f :: A)).size) (leavesS (f :: A)) (leavesS (f :: A.take sure)).size true
def allJr (f : ByteArray) (A : List ByteArray) : Jr := ⟨f, A, (leavesS (f :: A)).size, false⟩

theorem all_snoc (f : ByteArray) (A : List ByteArray) (s : ByteArray) : leavesS (f :: (A ++ [s])) = leavesS (f :: A) ++ leafS s := leavesS_snoc (f :: A) s

theorem all_start : openS ⟨1048576, []⟩ = (0, allSt bE [] 0, allJr bE []) := by
  have e : leavesS [bE] = leafS ⟨#[]⟩ := leaves_one bE
  rw [open_none 1048576 (by omega)]
  unfold allSt allJr
  simp only [List.take_nil]
  rw [e, leaf0_size]
  rfl

theorem all_add (f : ByteArray) (A : List ByteArray) (sure : Nat) (hs : sure ≤ A.length) (s : ByteArray) (hx : s.size ≤ 400000) (h : (leavesS (f :: A)).size + (leafS s).size ≤ 1048576) (press : Bool) :
    addS (allSt f A sure) (allJr f A) s press = (0, allSt f (A ++ [s]) (if press = true then A.length + 1 else sure), allJr f (A ++ [s])) := by
  unfold allSt allJr
  rw [add_one _ _ _ _ _ _ _ s hx (by omega) press, all_snoc, ByteArray.size_append, Nat.sub_sub]
  cases press with
  | true =>
    simp only [if_true, Bool.true_or]
    rw [List.take_of_length_le (by simp), all_snoc, ByteArray.size_append]
  | false =>
    simp only [Bool.false_eq_true, if_false, Bool.true_or]
    rw [List.take_append_of_le_length hs]

theorem all_press (f : ByteArray) (A : List ByteArray) (sure : Nat) : jpressS (allSt f A sure) (allJr f A) = (0, allSt f A A.length, allJr f A) := by
  unfold allSt allJr
  rw [press_one, List.take_length]

theorem all_lay (f : ByteArray) (A : List ByteArray) (sure : Nat) (s : ByteArray) (hx : s.size ≤ 400000) (h : (leavesS (f :: A)).size + (leafS s).size ≤ 1048576) :
    layS (allSt f A sure) (allJr f A) s = (0, allSt s [] 0, allJr s []) := by
  unfold allSt allJr
  rw [lay_one _ _ _ _ _ _ _ s hx (by omega)]
  simp only [List.take_nil]
  rw [leaves_one]
  congr 2
  show one _ _ _ _ = one _ _ _ _
  congr 1
  omega

theorem leaves_take_le (l : List ByteArray) (i : Nat) : (leavesS (l.take i)).size ≤ (leavesS l).size := by
  conv => rhs; rw [← List.take_append_drop i l, leavesS_append, ByteArray.size_append]
  omega

/-- Behind a tear: what was pressed, and a front of the rest. -/
theorem all_tear (f : ByteArray) (A : List ByteArray) (sure : Nat) (hs : sure ≤ A.length) (hA : ∀ x ∈ f :: A, x.size ≤ 400000) (hz : (leavesS (f :: A)).size ≤ 1048576) (n : Int) :
    ∃ m, sure ≤ m ∧ m ≤ A.length ∧ openS (tear (allSt f A sure) n) = (0, allSt f (A.take m) m, allJr f (A.take m)) := by
  unfold allSt
  rw [tear_one]
  have hp : (leavesS (f :: A.take sure)).size ≤ (leavesS (f :: A)).size := leaves_take_le (f :: A) (sure + 1)
  obtain ⟨h1, h2⟩ := stays_le ⟨leavesS (f :: A), (leavesS (f :: A.take sure)).size, true⟩ n hp
  simp only at h1 h2
  generalize stays ⟨leavesS (f :: A), (leavesS (f :: A.take sure)).size, true⟩ n = q at *
  obtain ⟨m1, rest, hm, he, hr, hzz, hi⟩ := leaves_cut (f :: A) q hA h2
  have hm1 := (hi (sure + 1) (by simpa using hs)).1 h1
  obtain ⟨m, rfl⟩ : ∃ m, m1 = m + 1 := ⟨m1 - 1, by omega⟩
  rw [List.take_succ_cons] at he hzz
  have hml : m ≤ A.length := by simpa using hm
  refine ⟨m, by omega, hml, ?_⟩
  rw [he, open_one _ _ true f (A.take m) rest (fun x hx => hA x (by
    rcases List.mem_cons.1 hx with rfl | hx
    · simp
    · exact List.mem_cons_of_mem _ (List.mem_of_mem_take hx))) hr]
  have ht : (A.take m).take m = A.take m := List.take_of_length_le (by simp; omega)
  unfold allJr
  rw [ht]
  have hle : (leavesS (f :: A.take m)).size ≤ (leavesS (f :: A)).size := leaves_take_le (f :: A) (m + 1)
  by_cases h0 : rest.size = 0
  · rw [if_pos h0]
    have e1 : q = (leavesS (f :: A.take m)).size := by omega
    rw [e1, show 1048576 - (leavesS (f :: A)).size + ((leavesS (f :: A)).size - (leavesS (f :: A.take m)).size) = 1048576 - (leavesS (f :: A.take m)).size by omega]
  · rw [if_neg h0, Nat.min_eq_right (by omega), show 1048576 - (leavesS (f :: A)).size + ((leavesS (f :: A)).size - q) + rest.size = 1048576 - (leavesS (f :: A.take m)).size by omega]

end Go.Proofs.YtedleadkfifgaaaGreatDoor
namespace Go.Proofs.YtedleadkfifgaaaGreatDoor
open Go.RowKit Go.Maps Go.Proofs.MapD Go.Proofs.Chest

/-- A cell that says yes or no. -/
def yes (b : Nat) (p : Bool) : It where
  p w F := w.cell? ⟨b, 3, none⟩ = some (.bool p) ∧ F = [b]
  kept := fun {w w' F} ⟨h, e⟩ hk => ⟨by rw [cell_of_block (hk b (by rw [e]; simp))]; exact h, e⟩
  lt := fun {w F} ⟨h, e⟩ k hk => by
    rw [e] at hk
    obtain rfl : k = b := by simpa using hk
    exact World.block_lt_of_cell? w _ h

theorem leaf_small {s : ByteArray} (h : s.size ≤ 60) : (leafS s).size ≤ 95 := by
  rw [leafS_size (by omega)]
  have := Lib.nDigits_le20 s.size (by omega)
  omega

/-- What the loop keeps. -/
def AllRel (len : Nat) (w : World) (cv jv fv sv av iv : Value) (wr : World) : Prop :=
  ∃ (k z c j : Nat) (f : ByteArray) (A : List ByteArray) (sure : Nat) (va : Value), va = av ∧ cv = .pointer (some ⟨c, 0, none⟩) ∧ jv = .pointer (some ⟨j, 0, none⟩) ∧ fv = .string f ∧ sv = .int .i64 sure ∧ iv = .int .i64 k ∧ k ≤ 30 ∧ k ≤ len ∧
    A.length ≤ k ∧ sure ≤ A.length ∧ z ≤ 100 * (k + 1) ∧ Hid ((leavesS (f :: A)).size = z ∧ ∀ x ∈ f :: A, x.size ≤ 60) ∧ Hid (Sp w wr [jc c j (allSt f A sure) (allJr f A), rc va A])

theorem all_len (f : ByteArray) (A : List ByteArray) (s : Nat) : (allSt f A s).l.length ≤ 900 := (by decide : 1 ≤ 900)

set_option maxRecDepth 100000 in
set_option maxHeartbeats 8000000 in
theorem journalAll_walk (v : Value) (len : Nat) (ks ns : Nat → Int) (ss : Nat → ByteArray) (ps : Nat → Bool) (b off cap : Nat) (ad : Option Addr) (hv : v = .slice ad len cap) (had : 0 < len → ad = some ⟨b, off, none⟩) (w : World) (hbg : BegunTrue4) (h : LibAt w)
    (hl : len ≤ 9223372036854775807) (hb : 0 < len → b < w.heap.size)
    (hc : ∀ i, i < len → w.cell? ⟨b, off + i * 4, none⟩ = some (.int .i64 (ks i)) ∧ w.cell? ⟨b, off + i * 4 + 1, none⟩ = some (.int .i64 (ns i)) ∧ w.cell? ⟨b, off + i * 4 + 2, none⟩ = some (.string (ss i)) ∧ w.cell? ⟨b, off + i * 4 + 3, none⟩ = some (.bool (ps i))) :
    Calls Tryz.prog 5 #[v] w fun e w' => e = .returned (.bool true) ∧ Below w.heap.size w w' := by
  subst hv
  have HB := Lib.hid (hbg w h)
  have HL := Lib.hid h
  have HC := Lib.hid hc
  have HBL := Lib.hid hb
  have HAD := Lib.hid had
  have hr3 : Hid ((min (max (1048576 : Int) 0) 1048576).toNat = 1048576) := Lib.hid (by omega)
  clear hbg h hc hb had
  go_enter Tryz.func5, Tryz.ntmps5
  go_wp2_with fail
  refine HB.out.mono ?_
  rintro _ w1 ⟨rfl, hb1⟩
  have H1 := Lib.hid (Sp.of_below hb1)
  clear hb1
  go_wp2_with fail
  refine (s_new 1048576 H1.out).mono ?_
  rintro _ w2 ⟨c0, rfl, h2⟩
  rw [hr3.out] at h2
  have H2 := Lib.hid h2
  clear h2
  go_wp2_with fail
  refine (s_open_ok H2.out HL.out (Nat.zero_le _) all_start).mono ?_
  rintro _ w3 ⟨j0, rfl, h3⟩
  have H3 := Lib.hid (sp_nil h3).swap
  clear h3
  go_wp2_with fail
  go_loopw [4, 5, 7, 8, 9, 10] (fun cv jv fv sv av iv wr => AllRel len w cv jv fv sv av iv wr) (fun _ _ _ _ _ iv _ => 30 - (intOf iv).toNat)
  case atStart => exact ⟨0, 11, c0, j0, bE, [], 0, _, rfl, rfl, rfl, rfl, rfl, rfl, by omega, by omega, Nat.le_refl _, Nat.le_refl _, by omega, Lib.hid ⟨by rw [leaves_one]; exact z_E, by intro x hx; simp at hx; subst hx; decide⟩, H3⟩
  case round =>
    obtain ⟨k, z, c, j, f, A, sure, va, hva, rfl, rfl, rfl, rfl, rfl, hk, hkl, hA, hsure, hz, HA, HS⟩ := hrel
    subst hva
    obtain ⟨vad, vcap, rfl⟩ := HS.out.swap.recs.shape
    by_cases hin : k < len ∧ k < 30
    · obtain ⟨h1, h2⟩ := hin
      obtain rfl := HAD.out (by omega)
      obtain ⟨q0, q1, q2, q3⟩ := HC.out k h1
      have hbl := HBL.out (by omega)
      rw [← HS.out.bl.cell hbl] at q0 q1 q2 q3
      have C1 := Lib.hid (cut_any (ss k) 60)
      have hSz := cutS_size (ss k) 60
      generalize cutS (ss k) 60 = S at *
      have j1 : (k : Int) < (len : Int) := by omega
      have j2 : (k : Int) < 30 := by omega
      have hq := leaf_small hSz
      generalize ks k = K at *
      generalize ns k = N at *
      generalize ss k = s0 at *
      generalize ps k = P at *
      have HY : Hid (∀ ty, Sp w (wr.alloc (.cells #[.int .i64 K, .int .i64 N, .string s0, .bool P] ty)) [yes wr.heap.size P, jc c j (allSt f A sure) (allJr f A), rc (.slice vad A.length vcap) A]) := Lib.hid (fun ty =>
        HS.out.new ((Below.refl _ _).alloc (Nat.le_refl _) _) ⟨[wr.heap.size], ⟨by go_simp, rfl⟩, by simp⟩)
      have HEA : Hid ((leavesS (f :: (A ++ [S]))).size = z + (leafS S).size ∧ ∀ x ∈ f :: (A ++ [S]), x.size ≤ 60) := Lib.hid ⟨by rw [all_snoc, ByteArray.size_append, HA.out.1], fun x hx => by
        rcases List.mem_cons.1 hx with rfl | hx
        · exact HA.out.2 x (by simp)
        · rcases List.mem_append.1 hx with hx | hx
          · exact HA.out.2 x (by simp [hx])
          · obtain rfl : x = S := by simpa using hx
            exact hSz⟩
      have hAs : (A ++ [S]).length = A.length + 1 := by simp
      obtain ⟨lq, hlq⟩ : ∃ lq, (leafS S).size = lq := ⟨_, rfl⟩
      by_cases hK0 : K = 0
      · subst hK0
        cases P with
        | true =>
          have ha := all_add f A sure hsure S (by omega) (by rw [HA.out.1]; omega) true
          simp only [if_true] at ha
          go_wp2_with fail
          refine (C1.out _).mono ?_
          rintro _ _ ⟨rfl, rfl⟩
          go_wp2_with fail
          refine (s_add (HY.out _).swap HL.out (all_len f A sure) (by show A.length ≤ 1000000; omega) (by show (leavesS (f :: A)).size ≤ 1000000000; rw [HA.out.1]; omega) S true).mono ?_
          rintro _ w4 ⟨rfl, h4⟩
          rw [ha] at h4 ⊢
          have H5 : Hid (∀ ty, Sp w (w4.alloc (.cells #[.string S] ty)) [rc (.slice vad A.length vcap) A, jc c j (allSt f (A ++ [S]) (A.length + 1)) (allJr f (A ++ [S])), yes wr.heap.size true]) := Lib.hid (fun ty => (h4.below ((Below.refl _ _).alloc (Nat.le_refl _) _)).rot)
          have hcl : ∀ (W : World) (ty : TypeId), (W.alloc (.cells #[.string S] ty)).cell? ⟨W.heap.size, 0, none⟩ = some (.string S) := by
            intro W ty
            go_simp
          have HCL := Lib.hid hcl
          clear h4 hcl ha
          go_wp2_with (at_builtin; refine wpList_append_recs rfl (.tmp 79) (.tmp 81) rfl (.slice vad A.length vcap) A rfl (sp_append (H5.out _)).1 (by omega) ⟨w4.heap.size, 0, none⟩ 1 S rfl (HCL.out _ _) ?_; intro v' w6 h1 h2 h3; have H6 := Lib.hid ((sp_append (H5.out _)).2 v' w6 S h1 h2 h3); obtain ⟨va', vc', rfl⟩ := h1.shape; rw [hAs] at H6; obtain ⟨_, y3, _⟩ := H6.out.rot.get; clear h1 h2 h3)
          have H7 := Lib.hid H6.out.swap
          go_wp2_with fail
          refine (s_first H7.out).mono ?_
          rintro _ _ ⟨e, rfl⟩
          rw [show (Ending.returned (Value.string (allJr f (A ++ [S])).first)) = .returned (.string f) from rfl] at e
          subst e
          go_wp2_with fail
          refine (s_records H7.out (by show ((A ++ [S])).length ≤ 1000000; first | omega | simp)).mono ?_
          rintro _ wa ⟨vq, rfl, hrq, _, hq⟩
          have HQ := Lib.hid (And.intro hrq hq.swap)
          clear hrq hq
          go_wp2_with fail
          refine (jeq_p HQ.out.1 HQ.out.2.recs.reads (by show ((A ++ [S])).length ≤ 2000000; first | omega | simp)).mono ?_
          rintro _ wb ⟨rfl, hbq⟩
          rw [decide_eq_true (show (allJr f (A ++ [S])).recs = (A ++ [S]) from rfl)]
          have HZ := Lib.hid ((HQ.out.2.below hbq).swap)
          clear hbq
          go_wp2_with fail
          go_roundw
          case rel => exact ⟨k + 1, z + lq, _, _, f, (A ++ [S]), (A.length + 1), _, rfl, rfl, rfl, rfl, by go_num, by go_num, by omega, by omega, by first | omega | simp, by first | omega | simp, by omega, (by rw [← hlq]; exact HEA), Lib.hid (HZ.out.cut2)⟩
          case measure => simp [intOf]; omega
        | false =>
          have ha := all_add f A sure hsure S (by omega) (by rw [HA.out.1]; omega) false
          simp only [Bool.false_eq_true, if_false] at ha
          go_wp2_with fail
          refine (C1.out _).mono ?_
          rintro _ _ ⟨rfl, rfl⟩
          go_wp2_with fail
          refine (s_add (HY.out _).swap HL.out (all_len f A sure) (by show A.length ≤ 1000000; omega) (by show (leavesS (f :: A)).size ≤ 1000000000; rw [HA.out.1]; omega) S false).mono ?_
          rintro _ w4 ⟨rfl, h4⟩
          rw [ha] at h4 ⊢
          have H5 : Hid (∀ ty, Sp w (w4.alloc (.cells #[.string S] ty)) [rc (.slice vad A.length vcap) A, jc c j (allSt f (A ++ [S]) (sure)) (allJr f (A ++ [S])), yes wr.heap.size false]) := Lib.hid (fun ty => (h4.below ((Below.refl _ _).alloc (Nat.le_refl _) _)).rot)
          have hcl : ∀ (W : World) (ty : TypeId), (W.alloc (.cells #[.string S] ty)).cell? ⟨W.heap.size, 0, none⟩ = some (.string S) := by
            intro W ty
            go_simp
          have HCL := Lib.hid hcl
          clear h4 hcl ha
          go_wp2_with (at_builtin; refine wpList_append_recs rfl (.tmp 79) (.tmp 81) rfl (.slice vad A.length vcap) A rfl (sp_append (H5.out _)).1 (by omega) ⟨w4.heap.size, 0, none⟩ 1 S rfl (HCL.out _ _) ?_; intro v' w6 h1 h2 h3; have H6 := Lib.hid ((sp_append (H5.out _)).2 v' w6 S h1 h2 h3); obtain ⟨va', vc', rfl⟩ := h1.shape; rw [hAs] at H6; obtain ⟨_, y3, _⟩ := H6.out.rot.get; clear h1 h2 h3)
          have H7 := Lib.hid H6.out.swap
          go_wp2_with fail
          refine (s_first H7.out).mono ?_
          rintro _ _ ⟨e, rfl⟩
          rw [show (Ending.returned (Value.string (allJr f (A ++ [S])).first)) = .returned (.string f) from rfl] at e
          subst e
          go_wp2_with fail
          refine (s_records H7.out (by show ((A ++ [S])).length ≤ 1000000; first | omega | simp)).mono ?_
          rintro _ wa ⟨vq, rfl, hrq, _, hq⟩
          have HQ := Lib.hid (And.intro hrq hq.swap)
          clear hrq hq
          go_wp2_with fail
          refine (jeq_p HQ.out.1 HQ.out.2.recs.reads (by show ((A ++ [S])).length ≤ 2000000; first | omega | simp)).mono ?_
          rintro _ wb ⟨rfl, hbq⟩
          rw [decide_eq_true (show (allJr f (A ++ [S])).recs = (A ++ [S]) from rfl)]
          have HZ := Lib.hid ((HQ.out.2.below hbq).swap)
          clear hbq
          go_wp2_with fail
          go_roundw
          case rel => exact ⟨k + 1, z + lq, _, _, f, (A ++ [S]), sure, _, rfl, rfl, rfl, rfl, by go_num, by go_num, by omega, by omega, by first | omega | simp, by first | omega | simp, by omega, (by rw [← hlq]; exact HEA), Lib.hid (HZ.out.cut2)⟩
          case measure => simp [intOf]; omega
      · by_cases hK1 : K = 1
        · subst hK1
          have hp := all_press f A sure
          go_wp2_with fail
          refine (C1.out _).mono ?_
          rintro _ _ ⟨rfl, rfl⟩
          go_wp2_with fail
          refine (s_press (HY.out _).swap).mono ?_
          rintro _ w4 ⟨rfl, h4⟩
          rw [hp] at h4 ⊢
          have H4 := Lib.hid h4.rot.swap
          clear h4 hp
          go_wp2_with fail
          refine (s_first H4.out).mono ?_
          rintro _ _ ⟨e, rfl⟩
          rw [show (Ending.returned (Value.string (allJr f A).first)) = .returned (.string f) from rfl] at e
          subst e
          go_wp2_with fail
          refine (s_records H4.out (by show (A).length ≤ 1000000; first | omega | simp)).mono ?_
          rintro _ wa ⟨vq, rfl, hrq, _, hq⟩
          have HQ := Lib.hid (And.intro hrq hq.swap)
          clear hrq hq
          go_wp2_with fail
          refine (jeq_p HQ.out.1 HQ.out.2.recs.reads (by show (A).length ≤ 2000000; first | omega | simp)).mono ?_
          rintro _ wb ⟨rfl, hbq⟩
          rw [decide_eq_true (show (allJr f A).recs = A from rfl)]
          have HZ := Lib.hid ((HQ.out.2.below hbq).swap)
          clear hbq
          go_wp2_with fail
          go_roundw
          case rel => exact ⟨k + 1, z, _, _, f, A, A.length, _, rfl, rfl, rfl, rfl, by go_num, by go_num, by omega, by omega, by first | omega | simp, by first | omega | simp, by omega, HA, Lib.hid (HZ.out.cut2)⟩
          case measure => simp [intOf]; omega
        · by_cases hK2 : K = 2
          · subst hK2
            have ha := all_lay f A sure S (by omega) (by rw [HA.out.1]; omega)
            have HE2 : Hid ((leavesS [S]).size = lq ∧ ∀ x ∈ [S], x.size ≤ 60) := Lib.hid ⟨by rw [leaves_one, hlq], by intro x hx; simp at hx; subst hx; exact hSz⟩
            go_wp2_with fail
            refine (C1.out _).mono ?_
            rintro _ _ ⟨rfl, rfl⟩
            go_wp2_with fail
            refine (s_lay (HY.out _).swap HL.out (all_len f A sure) S).mono ?_
            rintro _ w4 ⟨rfl, h4⟩
            rw [ha] at h4 ⊢
            have H4 := Lib.hid (sp_nil h4.cut2.swap.drop).swap
            clear h4 ha
            go_wp2_with fail
            refine (s_first H4.out).mono ?_
            rintro _ _ ⟨e, rfl⟩
            rw [show (Ending.returned (Value.string (allJr S []).first)) = .returned (.string S) from rfl] at e
            subst e
            go_wp2_with fail
            refine (s_records H4.out (by show ([]).length ≤ 1000000; first | omega | simp)).mono ?_
            rintro _ wa ⟨vq, rfl, hrq, _, hq⟩
            have HQ := Lib.hid (And.intro hrq hq.swap)
            clear hrq hq
            go_wp2_with fail
            refine (jeq_p HQ.out.1 HQ.out.2.recs.reads (by show ([]).length ≤ 2000000; first | omega | simp)).mono ?_
            rintro _ wb ⟨rfl, hbq⟩
            rw [decide_eq_true (show (allJr S []).recs = [] from rfl)]
            have HZ := Lib.hid ((HQ.out.2.below hbq).swap)
            clear hbq
            go_wp2_with fail
            go_roundw
            case rel => exact ⟨k + 1, lq, _, _, S, [], 0, _, rfl, rfl, rfl, rfl, by go_num, by go_num, by omega, by omega, by first | omega | simp, by first | omega | simp, by omega, HE2, Lib.hid (HZ.out.cut2)⟩
            case measure => simp [intOf]; omega
          · skip
            obtain ⟨m, hm1, hm2, ha⟩ := all_tear f A sure hsure (fun x hx => by have := HA.out.2 x hx; omega) (by rw [HA.out.1]; omega) N
            obtain ⟨zm, hzm⟩ : ∃ zm, (leavesS (f :: A.take m)).size = zm := ⟨_, rfl⟩
            have hzb : zm ≤ z := by
              rw [← hzm, ← HA.out.1]
              exact leaves_take_le (f :: A) (m + 1)
            have HE3 : Hid ((leavesS (f :: A.take m)).size = zm ∧ ∀ x ∈ f :: A.take m, x.size ≤ 60) := Lib.hid ⟨hzm, fun x hx => HA.out.2 x (by
              rcases List.mem_cons.1 hx with rfl | hx
              · simp
              · exact List.mem_cons_of_mem _ (List.mem_of_mem_take hx))⟩
            have hAm : (A.take m).length = m := by rw [List.length_take]; omega
            have hAm' : (allJr f (A.take m)).recs.length = m := hAm
            have HAM := Lib.hid ha
            have c1 : ¬ (m : Int) < (sure : Int) := by omega
            have c2 : ¬ (A.length : Int) < (m : Int) := by omega
            clear ha hzm
            rcases HS.out.swap.recs with ⟨hv, hA0⟩ | ⟨g, o, cap', cur, hv, _, hlc, _⟩
            · subst hA0
              obtain ⟨rfl, rfl⟩ : vad = none ∧ vcap = 0 := by cases hv; exact ⟨rfl, rfl⟩
              obtain rfl : m = 0 := by simpa using hm2
              go_wp2_with fail
              refine (C1.out _).mono ?_
              rintro _ _ ⟨rfl, rfl⟩
              go_wp2_with fail
              refine (s_jtear (HY.out _).swap (Nat.le_trans (all_len f _ sure) (by decide)) N).mono ?_
              rintro _ w4 ⟨d, rfl, h4⟩
              have H4 := Lib.hid h4
              clear h4
              go_wp2_with fail
              refine (s_open_ok H4.out HL.out (Nat.le_trans (len_tear _ _) (all_len f _ sure)) HAM.out).mono ?_
              rintro _ w5 ⟨j5, rfl, h5⟩
              have H5 := Lib.hid h5.swap.drop.swap.drop
              clear h5
              go_wp2_with fail
              refine (s_records H5.out (by rw [hAm']; omega)).mono ?_
              rintro _ w6 ⟨v6, rfl, ⟨ad6, cap6, rfl, _⟩, _, h6⟩
              rw [hAm']
              have H7 : Hid (Sp w w6 [jc d j5 (allSt f [] 0) (allJr f []), rc (.slice none 0 0) []]) := Lib.hid (sp_take h6.swap hm2).swap
              clear h6
              go_wp2_with fail
              refine (s_first H7.out).mono ?_
              rintro _ _ ⟨e, rfl⟩
              rw [show (Ending.returned (Value.string (allJr f []).first)) = .returned (.string f) from rfl] at e
              subst e
              go_wp2_with fail
              refine (s_records H7.out (by show ([]).length ≤ 1000000; first | omega | simp)).mono ?_
              rintro _ wa ⟨vq, rfl, hrq, _, hq⟩
              have HQ := Lib.hid (And.intro hrq hq.swap)
              clear hrq hq
              go_wp2_with fail
              refine (jeq_p HQ.out.1 HQ.out.2.recs.reads (by show ([]).length ≤ 2000000; first | omega | simp)).mono ?_
              rintro _ wb ⟨rfl, hbq⟩
              rw [decide_eq_true (show (allJr f []).recs = [] from rfl)]
              have HZ := Lib.hid ((HQ.out.2.below hbq).swap)
              clear hbq
              go_wp2_with fail
              go_roundw
              case rel => exact ⟨k + 1, zm, _, _, f, [], 0, _, rfl, rfl, rfl, rfl, by go_num, by go_num, by omega, by omega, by first | omega | simp, by first | omega | simp, by omega, HE3, Lib.hid (HZ.out.cut2)⟩
              case measure => simp [intOf]; omega
            · obtain ⟨rfl, rfl⟩ : vad = some ⟨g, o, none⟩ ∧ vcap = cap' := by cases hv; exact ⟨rfl, rfl⟩
              have hmc : (m : Int) ≤ (vcap : Int) := by omega
              have hmc0 : (0 : Int) ≤ (m : Int) := by omega
              go_wp2_with fail
              refine (C1.out _).mono ?_
              rintro _ _ ⟨rfl, rfl⟩
              go_wp2_with fail
              refine (s_jtear (HY.out _).swap (Nat.le_trans (all_len f A sure) (by decide)) N).mono ?_
              rintro _ w4 ⟨d, rfl, h4⟩
              have H4 := Lib.hid h4
              clear h4
              go_wp2_with fail
              refine (s_open_ok H4.out HL.out (Nat.le_trans (len_tear _ _) (all_len f A sure)) HAM.out).mono ?_
              rintro _ w5 ⟨j5, rfl, h5⟩
              have H5 := Lib.hid h5.swap.drop.swap.drop
              clear h5
              go_wp2_with fail
              refine (s_records H5.out (by rw [hAm']; omega)).mono ?_
              rintro _ w6 ⟨v6, rfl, ⟨ad6, cap6, rfl, _⟩, _, h6⟩
              rw [hAm']
              have H7 : Hid (Sp w w6 [jc d j5 (allSt f (A.take m) m) (allJr f (A.take m)), rc (.slice (some ⟨g, o, none⟩) m vcap) (A.take m)]) := Lib.hid (sp_take h6.swap hm2).swap
              clear h6
              go_wp2_with fail
              refine (s_first H7.out).mono ?_
              rintro _ _ ⟨e, rfl⟩
              rw [show (Ending.returned (Value.string (allJr f (A.take m)).first)) = .returned (.string f) from rfl] at e
              subst e
              go_wp2_with fail
              refine (s_records H7.out (by show ((A.take m)).length ≤ 1000000; first | omega | simp)).mono ?_
              rintro _ wa ⟨vq, rfl, hrq, _, hq⟩
              have HQ := Lib.hid (And.intro hrq hq.swap)
              clear hrq hq
              go_wp2_with fail
              refine (jeq_p HQ.out.1 HQ.out.2.recs.reads (by show ((A.take m)).length ≤ 2000000; first | omega | simp)).mono ?_
              rintro _ wb ⟨rfl, hbq⟩
              rw [decide_eq_true (show (allJr f (A.take m)).recs = (A.take m) from rfl)]
              have HZ := Lib.hid ((HQ.out.2.below hbq).swap)
              clear hbq
              go_wp2_with fail
              go_roundw
              case rel => exact ⟨k + 1, zm, _, _, f, (A.take m), m, _, rfl, rfl, rfl, rfl, by go_num, by go_num, by omega, by omega, by first | omega | simp, by first | omega | simp, by omega, HE3, Lib.hid (HZ.out.cut2)⟩
              case measure => simp [intOf]; omega
    · have HEND : Hid (Below w.heap.size w wr) := Lib.hid HS.out.bl
      by_cases h1 : k < len
      · have h2 : ¬ k < 30 := fun g => hin ⟨h1, g⟩
        have j1 : (k : Int) < (len : Int) := by omega
        have j2 : ¬ (k : Int) < 30 := by omega
        clear hin h1 h2 HC HBL HAD
        go_wp2_with fail
        go_ret
        exact ⟨rfl, HEND.out⟩
      · have j1 : ¬ (k : Int) < (len : Int) := by omega
        clear hin h1 HC HBL HAD
        go_wp2_with fail
        go_ret
        exact ⟨rfl, HEND.out⟩

end Go.Proofs.YtedleadkfifgaaaGreatDoor
