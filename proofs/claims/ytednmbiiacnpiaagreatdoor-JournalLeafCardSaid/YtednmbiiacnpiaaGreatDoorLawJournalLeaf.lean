/-
  JournalLeaf answers true.
-/
import Derived.Test.YtednmbiiacnpiaaGreatDoorBegun4
import Derived.Test.YtednmbiiacnpiaaGreatDoorJrG
namespace Go.Proofs.YtednmbiiacnpiaaGreatDoor
open Go.RowKit Go.Proofs.Flo Go.Proofs.Cpl Go.Sort Go.Proofs.Chest

theorem xor_byte (c : UInt8) (x : Int) (h0 : 0 ≤ x) (h1 : x ≤ 255) : bits BinOp.xor IntKind.u8 (c.toNat : Int) x = ((c ^^^ UInt8.ofNat x.toNat).toNat : Int) ∧ (c ^^^ UInt8.ofNat x.toNat = c ↔ x = 0) := by
  have hc := c.toNat_lt
  have e : (UInt8.ofNat x.toNat).toNat = x.toNat := by rw [UInt8.toNat_ofNat']; omega
  refine ⟨?_, ?_⟩
  · rw [u8_xor _ _ (by omega) (by omega) h0 (by omega), UInt8.toNat_xor, e]
    simp
  · constructor
    · intro h
      have h2 : (UInt8.ofNat x.toNat) = 0 := by
        have h3 : c ^^^ (c ^^^ UInt8.ofNat x.toNat) = c ^^^ c := by rw [h]
        rw [← UInt8.xor_assoc, UInt8.xor_self, UInt8.zero_xor] at h3
        exact h3
      have h4 := congrArg UInt8.toNat h2
      rw [e] at h4
      have : (0 : UInt8).toNat = 0 := rfl
      omega
    · rintro rfl
      show c ^^^ 0 = c
      exact UInt8.xor_zero

theorem get_kind {t : ByteArray} {x : G} (h : getR t = .ok x) (hk : x.k = 2) : (t.extract ((cutP t).2.1 - 1) (cutP t).2.1).data.toList = [44] := by
  unfold getR at h
  rw [getP] at h
  split at h
  · rw [if_neg (by decide)] at h
    simp only at h
    split at h
    · split at h
      · cases h
        simp at hk
      · cases h
    · split at h
      · rename_i h1
        exact h1
      · split at h
        · split at h
          · cases h
            simp at hk
          · cases h
        · cases h
  · cases h

/-- Turn, at a mark and a frame. -/
theorem turn_form (s u e : ByteArray) : turnS (markS s ++ frameS u e) = (match getR (frameS u e) with
    | .error e => (⟨#[]⟩, 0, if e = 2 then 2 else 3)
    | .ok x => if x.k = 2 ∧ markS x.s = markS s then (x.s, 8 + x.b, 0) else (⟨#[]⟩, 0, 3)) := by
  have h8 := markS_size s
  have e1 : (markS s ++ frameS u e).extract 0 8 = markS s := by
    rw [extract_fst _ _ _ (by omega), ← h8, extract_all]
  have e2 : (markS s ++ frameS u e).extract 8 (markS s ++ frameS u e).size = frameS u e := by
    have := extract_app (markS s) (frameS u e)
    rw [h8] at this
    exact this
  have e3 : 8 ≤ (markS s ++ frameS u e).size := by
    rw [ByteArray.size_append]
    omega
  unfold turnS
  rw [pad_whole e3, e1, e2, marked_yes (markS_is s), if_neg (by decide), if_neg (by omega)]
  rfl

theorem leaf_list {s : ByteArray} (hs : s.size ≤ 400000) : (leafS s).data.toList = ((markS s).data.toList ++ (Lib.decDigits s.size ++ [58])) ++ (s.data.toList ++ [44]) := by
  rw [leafS_eq hs, append_toList, frame_list _ _ (by omega)]
  simp

theorem form_list (s u : ByteArray) (c : UInt8) (hu : u.size ≤ 9999999) : (markS s ++ frameS u ⟨#[c]⟩).data.toList = ((markS s).data.toList ++ (Lib.decDigits u.size ++ [58])) ++ (u.data.toList ++ [c]) := by
  rw [append_toList, frame_list _ _ hu]
  simp

theorem of_list {t : ByteArray} {l : List UInt8} (h : t.data.toList = l) : (⟨l.toArray⟩ : ByteArray) = t := by
  subst h
  simp

/-- A byte that was turned, but of a length, is told. -/
theorem turn_turned (s : ByteArray) (hs : s.size ≤ 400000) (k : Nat) (hk : k < (leafS s).size) (c : UInt8) (hc : c ≠ (leafS s).data.toList[k]'hk) :
    (turnS ⟨((leafS s).data.toList.set k c).toArray⟩).2.2 ≠ 0 ∨ (8 ≤ k ∧ k < 9 + Lib.nDigits s.size) := by
  have h8 := markS_size s
  have hz := leafS_size hs
  have hd : (Lib.decDigits s.size).length = Lib.nDigits s.size := Lib.decDigits_length _
  have hP : ((markS s).data.toList ++ (Lib.decDigits s.size ++ [58])).length = 9 + Lib.nDigits s.size := by
    simp only [List.length_append, List.length_singleton, hd]
    show (markS s).size + _ = _
    omega
  by_cases h1 : k < 8
  · left
    have hl8 : ((leafS s).data.toList.set k c).length = (leafS s).size := by rw [List.length_set]; rfl
    obtain ⟨t, ht⟩ : ∃ t : ByteArray, t = ⟨((leafS s).data.toList.set k c).toArray⟩ := ⟨_, rfl⟩
    have htl : t.data.toList = (leafS s).data.toList.set k c := by rw [ht]
    have htz : t.size = (leafS s).size := by
      show t.data.toList.length = _
      rw [htl, hl8]
    rw [← ht]
    have e1 : t.extract 0 8 ≠ markS s := by
      intro e
      have e2 : (t.extract 0 8).data.toList = (markS s).data.toList := by rw [e]
      rw [Lib.extract_data, htl] at e2
      simp only [List.drop_zero, Nat.sub_zero] at e2
      have e3 : (markS s).data.toList[k]? = some c := by
        rw [← e2, List.getElem?_take, if_pos h1, List.getElem?_set_self (by exact hk)]
      have e4 : (leafS s).data.toList[k]? = (markS s).data.toList[k]? := by
        rw [leafS_eq hs, append_toList, List.getElem?_append_left (by show k < (markS s).size; omega)]
      rw [e3, List.getElem?_eq_getElem (by exact hk)] at e4
      exact hc (Option.some.inj e4).symm
    have e2 : t.extract 8 t.size = frameS s ⟨#[44]⟩ := by
      apply ByteArray.ext
      apply Array.ext'
      rw [Lib.extract_data, htl, htz, List.drop_set, if_pos h1, leafS_eq hs, append_toList]
      rw [List.drop_append, List.drop_eq_nil_of_le (show (markS s).data.toList.length ≤ 8 by show (markS s).size ≤ 8; omega), List.nil_append]
      rw [show (markS s).data.toList.length = 8 from h8, Nat.sub_self, List.drop_zero]
      exact List.take_of_length_le (by show (frameS s ⟨#[44]⟩).size ≤ _; rw [← leafS_eq hs]; rw [leafS_eq hs, ByteArray.size_append]; omega)
    have hg := getR_frame s ⟨#[]⟩ (by omega)
    rw [append_none] at hg
    unfold turnS
    split
    · decide
    · rw [if_neg (by omega), e2, hg]
      simp only
      rw [if_neg (fun h => e1 h.2.symm)]
      decide
  · by_cases h2 : k < 9 + Lib.nDigits s.size
    · exact .inr ⟨by omega, h2⟩
    · left
      obtain ⟨j, rfl⟩ : ∃ j, k = 9 + Lib.nDigits s.size + j := ⟨k - (9 + Lib.nDigits s.size), by omega⟩
      have hset : (leafS s).data.toList.set (9 + Lib.nDigits s.size + j) c = ((markS s).data.toList ++ (Lib.decDigits s.size ++ [58])) ++ (s.data.toList ++ [44]).set j c := by
        rw [leaf_list hs, List.set_append_right _ _ (by rw [hP]; omega), hP, Nat.add_sub_cancel_left]
      have hget : ∀ (h : 9 + Lib.nDigits s.size + j < (leafS s).data.toList.length), (leafS s).data.toList[9 + Lib.nDigits s.size + j]? = (s.data.toList ++ [44])[j]? := fun h => by
        rw [leaf_list hs, List.getElem?_append_right (by rw [hP]; omega), hP, Nat.add_sub_cancel_left]
      have hget' := hget hk
      rw [List.getElem?_eq_getElem (by exact hk)] at hget'
      rw [hset]
      by_cases hj : j < s.size
      · obtain ⟨s', hs'⟩ : ∃ s' : ByteArray, s'.data.toList = s.data.toList.set j c := ⟨⟨(s.data.toList.set j c).toArray⟩, rfl⟩
        have hsz : s'.size = s.size := by
          show s'.data.toList.length = _
          rw [hs', List.length_set]
          rfl
        have hjl : j < s.data.toList.length := hj
        have e1 : (s.data.toList ++ [44]).set j c = s'.data.toList ++ [44] := by
          rw [List.set_append_left _ _ hjl, hs']
        have e2 := form_list s s' 44 (by omega)
        rw [hsz] at e2
        rw [e1, of_list e2, turn_form]
        have hg := getR_frame s' ⟨#[]⟩ (by omega)
        rw [append_none] at hg
        rw [hg]
        simp only
        rw [if_neg]
        · decide
        · rintro ⟨_, hm⟩
          have h3 := IsText.one (markS_is s') (by rw [hm]; exact markS_is s)
          rw [hs', mark_turned _ _ hjl] at h3
          rw [List.getElem?_append_left hjl, List.getElem?_eq_getElem hjl] at hget'
          exact hc (h3.trans (Option.some.inj hget').symm)
      · have hj' : j = s.size := by omega
        subst hj'
        have e1 : (s.data.toList ++ [44]).set s.size c = s.data.toList ++ [c] := by
          rw [show s.size = s.data.toList.length from rfl, List.set_append_right _ _ (Nat.le_refl s.data.toList.length), Nat.sub_self]
          rfl
        rw [e1, of_list (form_list s s c (by omega)), turn_form]
        have h44 : c ≠ 44 := by
          rw [show (s.data.toList ++ [44])[s.size]? = (s.data.toList ++ [44])[s.data.toList.length]? from rfl, List.getElem?_append_right (Nat.le_refl s.data.toList.length), Nat.sub_self] at hget'
          intro e
          rw [e] at hc
          exact hc (Option.some.inj hget').symm
        obtain ⟨c1, c2⟩ := cut_frame s ⟨#[c]⟩ ⟨#[]⟩ (by omega) rfl
        rw [append_none] at c1 c2
        cases hg : getR (frameS s ⟨#[c]⟩) with
        | error e =>
          simp only
          split <;> decide
        | ok x =>
          simp only
          rw [if_neg]
          · decide
          · rintro ⟨h3, _⟩
            have h4 := get_kind hg h3
            rw [c1] at h4
            simp only at h4
            rw [c2] at h4
            exact h44 (by simpa using h4)

theorem conv_bytesAt {w : World} {b cap : Nat} {l : List UInt8} (h : BytesAt w b 0 l) : (convert 28 9 (.slice (some ⟨b, 0, none⟩) l.length cap)).run Tryz.prog w = .ok (.string ⟨l.toArray⟩) w :=
  run_convert_bytes_back (P := Tryz.prog) w 28 9 5 ⟨b, 0, none⟩ cap l Tryz.underlying28 Tryz.underlying5 Tryz.underlying9 (fun j hj => by
    rw [Addr.add_lit]
    exact h j hj)

theorem dec_len (n : Nat) : (decS (n : Int)).size = Lib.nDigits n := by
  show (decS (n : Int)).data.toList.length = _
  rw [decS_list]
  unfold Lib.itoa
  rw [if_neg (by omega), Int.toNat_natCast]
  exact Lib.decDigits_length _

set_option maxRecDepth 100000 in
set_option maxHeartbeats 4000000 in
theorem leaf_out (s more : ByteArray) (at' x : Int) (w : World) (hbg : BegunTrue4) (h : LibAt w) (ha : at' < 0) :
    Calls Tryz.prog 3 #[.string s, .string more, .int .i64 at', .int .u8 x] w fun e w' => e = .returned (.bool true) ∧ Below w.heap.size w w' := by
  have HB := Lib.hid (hbg w h)
  have HL := Lib.hid h
  clear hbg h
  have C1 := Lib.hid (cut_any s 100)
  have C2 := Lib.hid (cut_any more 30)
  have hS := cutS_size s 100
  have hM := cutS_size more 30
  generalize cutS s 100 = S at *
  generalize cutS more 30 = M at *
  have hnd := Lib.nDigits_le20 S.size (by omega)
  have hz := leafS_size (s := S) (by omega)
  have JL := Lib.hid (fun w1 (h1 : LibAt w1) => jleaf_p S w1 h1)
  have RL := Lib.hid (rleaf_p S (by omega))
  have T1 := fun w1 (h1 : LibAt w1) => jturn_p (leafS S ++ M) (by rw [ByteArray.size_append]; omega) w1 h1
  rw [turn_leaf S M (by omega)] at T1
  simp only at T1
  have HT1 := Lib.hid T1
  clear T1
  generalize leafS S = LS at *
  have hj : ¬ 9223372036854775807 < LS.size + M.size := by omega
  clear hz
  go_enter Tryz.func3, Tryz.ntmps3
  go_wp2_with fail
  refine HB.out.mono ?_
  rintro _ w1 ⟨rfl, hb1⟩
  have B1 := Lib.hid hb1
  clear hb1
  go_wp2_with fail
  refine (C1.out _).mono ?_
  rintro _ _ ⟨rfl, rfl⟩
  go_wp2_with fail
  refine (C2.out _).mono ?_
  rintro _ _ ⟨rfl, rfl⟩
  go_wp2_with fail
  refine (JL.out w1 (HL.out.below B1.out)).mono ?_
  rintro _ w2 ⟨rfl, hb2⟩
  have B2 := Lib.hid (B1.out.trans (hb2.mono B1.out.size))
  clear hb2
  go_wp2_with fail
  refine (HT1.out w2 (HL.out.below B2.out)).mono ?_
  rintro _ w3 ⟨rfl, hb3⟩
  have B3 := Lib.hid (B2.out.trans (hb3.mono B2.out.size))
  clear hb3
  go_wp2_with fail
  refine (RL.out w3).mono ?_
  rintro _ w4 ⟨rfl, hb4⟩
  have B4 := Lib.hid (B3.out.trans (hb4.mono B3.out.size))
  clear hb4
  go_wp2_with fail
  refine (RL.out w4).mono ?_
  rintro _ w5 ⟨rfl, hb5⟩
  have B5 := Lib.hid (B4.out.trans (hb5.mono B4.out.size))
  clear hb5
  go_wp2_with fail
  go_ret
  exact ⟨rfl, B5.out⟩

set_option maxRecDepth 100000 in
set_option maxHeartbeats 8000000 in
theorem leaf_in (s more : ByteArray) (at' x : Int) (w : World) (hbg : BegunTrue4) (h : LibAt w) (ha : 0 ≤ at') (hx0 : 0 ≤ x) (hx1 : x ≤ 255) :
    Calls Tryz.prog 3 #[.string s, .string more, .int .i64 at', .int .u8 x] w fun e w' => e = .returned (.bool true) ∧ Below w.heap.size w w' := by
  have HB := Lib.hid (hbg w h)
  have HL := Lib.hid h
  clear hbg h
  have C1 := Lib.hid (cut_any s 100)
  have C2 := Lib.hid (cut_any more 30)
  have hS := cutS_size s 100
  have hM := cutS_size more 30
  generalize cutS s 100 = S at *
  generalize cutS more 30 = M at *
  have hnd := Lib.nDigits_le20 S.size (by omega)
  have hz := leafS_size (s := S) (by omega)
  have JL := Lib.hid (fun w1 (h1 : LibAt w1) => jleaf_p S w1 h1)
  have RL := Lib.hid (rleaf_p S (by omega))
  have T1 := fun w1 (h1 : LibAt w1) => jturn_p (leafS S ++ M) (by rw [ByteArray.size_append]; omega) w1 h1
  rw [turn_leaf S M (by omega)] at T1
  simp only at T1
  have HT1 := Lib.hid T1
  clear T1
  obtain ⟨k, hk⟩ : ∃ k : Nat, at' % ((leafS S).size : Int) = (k : Int) := ⟨(at' % ((leafS S).size : Int)).toNat, by have := Int.emod_nonneg at' (show ((leafS S).size : Int) ≠ 0 by omega); omega⟩
  have hkl : k < (leafS S).size := by have := Int.emod_lt_of_pos at' (show (0 : Int) < ((leafS S).size : Int) by omega); omega
  have T2 := fun w1 (h1 : LibAt w1) => jturn_p ((leafS S).extract 0 k) (by rw [ByteArray.size_extract]; omega) w1 h1
  rw [turn_front S (by omega) k hkl] at T2
  simp only at T2
  have HT2 := Lib.hid T2
  clear T2
  obtain ⟨c, hc⟩ : ∃ c, (leafS S).data.toList[k]'hkl = c := ⟨_, rfl⟩
  obtain ⟨hxor, hxz⟩ := xor_byte c x hx0 hx1
  obtain ⟨c', hc'⟩ : ∃ c', c ^^^ UInt8.ofNat x.toNat = c' := ⟨_, rfl⟩
  rw [hc'] at hxor hxz
  have htz : (⟨((leafS S).data.toList.set k c').toArray⟩ : ByteArray).size = (leafS S).size := by
    show ((leafS S).data.toList.set k c').length = _
    rw [List.length_set]
    rfl
  have T3 := fun w1 (h1 : LibAt w1) => jturn_p ⟨((leafS S).data.toList.set k c').toArray⟩ (by rw [htz]; omega) w1 h1
  have HR : (x = 0 ∧ turnS ⟨((leafS S).data.toList.set k c').toArray⟩ = (S, (leafS S).size, 0)) ∨ (x ≠ 0 ∧ ((turnS ⟨((leafS S).data.toList.set k c').toArray⟩).2.2 ≠ 0 ∨ (8 ≤ k ∧ k < 9 + Lib.nDigits S.size))) := by
    by_cases hx : x = 0
    · left
      refine ⟨hx, ?_⟩
      have h1 : (leafS S).data.toList.set k c' = (leafS S).data.toList := by
        rw [hxz.2 hx, ← hc]
        exact List.set_getElem_self _
      rw [h1, of_list rfl]
      have := turn_leaf S ⟨#[]⟩ (by omega)
      rw [append_none] at this
      exact this
    · right
      refine ⟨hx, turn_turned S (by omega) k hkl c' (fun e => hx (hxz.1 (e.trans hc)))⟩
  obtain ⟨R, hR⟩ : ∃ R, turnS ⟨((leafS S).data.toList.set k c').toArray⟩ = R := ⟨_, rfl⟩
  rw [hR] at HR T3
  have HT3 := Lib.hid T3
  have HCELL : Hid (∀ w, (Lib.bytesWorld w 5 (leafS S)).cell? ⟨w.heap.size, k, none⟩ = some (.int .u8 (c.toNat : Int))) := Lib.hid (by
    intro w
    have := bytesAt_str w 5 (leafS S) k hkl
    rw [Nat.zero_add, hc] at this
    exact this)
  have HFREE : Hid (∀ w, (Lib.bytesWorld w 5 (leafS S)).frozen? ⟨w.heap.size, k, none⟩ = false) := Lib.hid (fun w => bytesWorld_free w 5 (leafS S) k hkl)
  have HCV : Hid (∀ (w : World) (cap : Nat), (convert 28 9 (.slice (some ⟨w.heap.size, 0, none⟩) (leafS S).size cap)).run Tryz.prog ((Lib.bytesWorld w 5 (leafS S)).setCell ⟨w.heap.size, k, none⟩ (.int .u8 (c'.toNat : Int))) = .ok (.string ⟨((leafS S).data.toList.set k c').toArray⟩) ((Lib.bytesWorld w 5 (leafS S)).setCell ⟨w.heap.size, k, none⟩ (.int .u8 (c'.toNat : Int)))) := Lib.hid (fun w cap => by
    have := conv_bytesAt (cap := cap) ((bytesAt_str w 5 (leafS S)).set k hkl c')
    rw [List.length_set] at this
    exact this)
  have HD := Lib.hid (rDigits (S.size : Int) (by omega) (by omega))
  have hdl := dec_len S.size
  generalize decS (S.size : Int) = D at *
  generalize (⟨((leafS S).data.toList.set k c').toArray⟩ : ByteArray) = T at *
  have HV := Lib.hid (conv_str (leafS S))
  generalize hLS : leafS S = LS at *
  have hj : ¬ 9223372036854775807 < LS.size + M.size := by omega
  have n1 : ¬ at' < 0 := by omega
  have n2 : ((LS.size : Int) == 0) = false := by rw [beq_eq_false_iff_ne]; omega
  have n3 : ¬ (LS.size : Int) = 0 := by omega
  have i0 : (0 : Int) ≤ (k : Int) ∧ (k : Int) < (LS.size : Int) := by omega
  have i1 : (k : Int) ≤ (LS.size : Int) := by omega
  have v1 := HV.out
  obtain ⟨u, m3, g⟩ := R
  simp only at HR HT3
  have hz1 : 10 ≤ LS.size := by omega
  have hz2 : LS.size ≤ 140 := by omega
  have HDL := Lib.hid hdl
  clear hc hc' hR htz hLS hxz T3 hz hdl
  go_enter Tryz.func3, Tryz.ntmps3
  go_wp2_with fail
  refine HB.out.mono ?_
  rintro _ w1 ⟨rfl, hb1⟩
  have B1 := Lib.hid hb1
  clear hb1
  go_wp2_with fail
  refine (C1.out _).mono ?_
  rintro _ _ ⟨rfl, rfl⟩
  go_wp2_with fail
  refine (C2.out _).mono ?_
  rintro _ _ ⟨rfl, rfl⟩
  go_wp2_with fail
  refine (JL.out w1 (HL.out.below B1.out)).mono ?_
  rintro _ w2 ⟨rfl, hb2⟩
  have B2 := Lib.hid (B1.out.trans (hb2.mono B1.out.size))
  clear hb2
  go_wp2_with fail
  refine (HT1.out w2 (HL.out.below B2.out)).mono ?_
  rintro _ w3 ⟨rfl, hb3⟩
  have B3 := Lib.hid (B2.out.trans (hb3.mono B2.out.size))
  clear hb3
  go_wp2_with fail
  refine (RL.out w3).mono ?_
  rintro _ w4 ⟨rfl, hb4⟩
  have B4 := Lib.hid (B3.out.trans (hb4.mono B3.out.size))
  clear hb4
  go_wp2_with fail
  refine (HT2.out w4 (HL.out.below B4.out)).mono ?_
  rintro _ w5 ⟨rfl, hb5⟩
  have B5 := Lib.hid (B4.out.trans (hb5.mono B4.out.size))
  clear hb5
  have d0 := HCELL.out w5
  have d1 := HFREE.out w5
  have d2 := HCV.out w5
  go_wp2_with fail
  have hbX : Below w5.heap.size w5 ((Lib.bytesWorld w5 5 LS).setCell ⟨w5.heap.size, k, none⟩ (.int .u8 (c'.toNat : Int))) := (Lib.bytesWorld_below w5 5 LS).setCell (Nat.le_refl _) _
  have B6 := Lib.hid (B5.out.trans (hbX.mono B5.out.size))
  clear hbX d0 d1 d2
  generalize (Lib.bytesWorld w5 5 LS).setCell ⟨w5.heap.size, k, none⟩ (.int .u8 (c'.toNat : Int)) = w6 at *
  refine (HT3.out w6 (HL.out.below B6.out)).mono ?_
  rintro _ w7 ⟨rfl, hb7⟩
  have B7 := Lib.hid (B6.out.trans (hb7.mono B6.out.size))
  clear hb7
  go_wp2_with fail
  refine (HD.out w7).mono ?_
  rintro _ w8 ⟨rfl, hb8⟩
  have B8 := Lib.hid (B7.out.trans (hb8.mono B7.out.size))
  clear hb8
  rcases HR with ⟨hx, hq⟩ | ⟨hx, hq⟩
  · obtain ⟨rfl, rfl, rfl⟩ : u = S ∧ m3 = LS.size ∧ g = 0 := by
      simp only [Prod.mk.injEq] at hq
      exact hq
    have t0 : (x == 0) = true := by rw [beq_iff_eq]; exact hx
    have t3 : (x != 0) = false := by rw [bne_eq_false_iff_eq]; exact hx
    have hD20 : D.size ≤ 20 := by have := HDL.out; omega
    clear hq
    by_cases h8 : 8 ≤ k
    · have h8' : (8 : Int) ≤ (k : Int) := by omega
      go_wp2_with fail
      all_goals (go_ret; exact ⟨rfl, B8.out⟩)
    · have h8' : ¬ (8 : Int) ≤ (k : Int) := by omega
      go_wp2_with fail
      all_goals (go_ret; exact ⟨rfl, B8.out⟩)
  · have t0 : (x == 0) = false := by rw [beq_eq_false_iff_ne]; exact hx
    have t1 : ¬ x = 0 := hx
    have t3 : (x != 0) = true := by rw [bne_iff_ne]; exact hx
    have hD20 : D.size ≤ 20 := by have := HDL.out; omega
    by_cases hg : g = 0
    · subst hg
      have h2 : 8 ≤ k ∧ k < 9 + Lib.nDigits S.size := by
        rcases hq with h | h
        · exact absurd rfl h
        · exact h
      have h8' : (8 : Int) ≤ (k : Int) := by omega
      have h9' : (k : Int) < 9 + (D.size : Int) := by have := HDL.out; omega
      clear hq h2
      go_wp2_with fail
      all_goals (go_ret; exact ⟨rfl, B8.out⟩)
    · have t2 : (g == 0) = false := by rw [beq_eq_false_iff_ne]; exact hg
      have t4 : (g != 0) = true := by rw [bne_iff_ne]; exact hg
      clear hq
      by_cases h8 : 8 ≤ k
      · have h8' : (8 : Int) ≤ (k : Int) := by omega
        go_wp2_with fail
        all_goals (go_ret; exact ⟨rfl, B8.out⟩)
      · have h8' : ¬ (8 : Int) ≤ (k : Int) := by omega
        go_wp2_with fail
        all_goals (go_ret; exact ⟨rfl, B8.out⟩)

theorem journalLeaf_walk (s more : ByteArray) (at' x : Int) (w : World) (hbg : BegunTrue4) (h : LibAt w) (hx0 : 0 ≤ x) (hx1 : x ≤ 255) :
    Calls Tryz.prog 3 #[.string s, .string more, .int .i64 at', .int .u8 x] w fun e w' => e = .returned (.bool true) ∧ Below w.heap.size w w' := by
  by_cases ha : at' < 0
  · exact leaf_out s more at' x w hbg h ha
  · exact leaf_in s more at' x w hbg h (by omega) hx0 hx1

end Go.Proofs.YtednmbiiacnpiaaGreatDoor
