import Derived.Test.YtamennoehnigaaaDoorMark
namespace Go.Proofs.YtamennoehnigaaaDoor
open Go.RowKit Go.Proofs.Flo Go.Proofs.Cpl Go.Sort

theorem xor_byte (c : UInt8) (x : Int) (h0 : 0 ≤ x) (h1 : x ≤ 255) : bits BinOp.xor IntKind.u8 (c.toNat : Int) x = ((c ^^^ UInt8.ofNat x.toNat).toNat : Int) ∧ (c ^^^ UInt8.ofNat x.toNat = c ↔ x = 0) := by
  have hc := c.toNat_lt
  have e : (UInt8.ofNat x.toNat).toNat = x.toNat := by rw [UInt8.toNat_ofNat']; omega
  refine ⟨?_, ?_⟩
  · rw [u8_xor _ _ (by omega) (by omega) h0 (by omega), UInt8.toNat_xor, e]
    simp
  · constructor
    · intro h
      have h2 : (UInt8.ofNat x.toNat) = 0 := by
        have h3 : c ^^^ (c ^^^ UInt8.ofNat x.toNat) = c ^^^ c := by rw [h]
        rw [← UInt8.xor_assoc, UInt8.xor_self, UInt8.zero_xor] at h3
        exact h3
      have h4 := congrArg UInt8.toNat h2
      rw [e] at h4
      have : (0 : UInt8).toNat = 0 := rfl
      omega
    · rintro rfl
      show c ^^^ 0 = c
      exact UInt8.xor_zero

set_option maxRecDepth 100000 in
set_option maxHeartbeats 2000000 in
theorem markTurn_in (s : ByteArray) (at' x : Int) (w : World) (hbg : BegunTrue) (h : LibAt w) (hx0 : 0 ≤ x) (hx1 : x ≤ 255) (ha : 0 ≤ at') (hs : 0 < (cutS s 150).size) :
    Calls Tryd.prog 8 #[.string s, .int .i64 at', .int .u8 x] w fun e w' => e = .returned (.bool true) ∧ Below w.heap.size w w' := by
  have HB := Lib.hid (hbg w h)
  clear hbg h
  have C1 := Lib.hid (cut_any s 150)
  have hS := cutS_size s 150
  generalize cutS s 150 = S at *
  have hS' : S.size ≤ maxLen := by unfold maxLen; omega
  have v1 := conv_str S
  obtain ⟨k, hk⟩ : ∃ k : Nat, at' % (S.size : Int) = (k : Int) := ⟨(at' % (S.size : Int)).toNat, by have := Int.emod_nonneg at' (show (S.size : Int) ≠ 0 by omega); omega⟩
  have hkl : k < S.size := by have := Int.emod_lt_of_pos at' (show (0 : Int) < (S.size : Int) by omega); omega
  obtain ⟨c, hc⟩ : ∃ c, S.data.toList[k]'hkl = c := ⟨_, rfl⟩
  obtain ⟨hxor, hxz⟩ := xor_byte c x hx0 hx1
  obtain ⟨c', hc'⟩ : ∃ c', c ^^^ UInt8.ofNat x.toNat = c' := ⟨_, rfl⟩
  rw [hc'] at hxor hxz
  obtain ⟨G, hG⟩ : ∃ G, gon (0, 1) S.data.toList = G := ⟨_, rfl⟩
  obtain ⟨H, hH⟩ : ∃ H, gon (0, 1) (S.data.toList.set k c') = H := ⟨_, rfl⟩
  have hHG : H = G ↔ x = 0 := by
    rw [← hH, ← hG, mark_turned _ _ hkl, hc]
    exact hxz
  have hokG : Ok G := by rw [← hG]; exact ok_gon ok_i _
  have hokH : Ok H := by rw [← hH]; exact ok_gon ok_i _
  have M1 := Lib.hid (fun b n cap hn => mark_str S b n cap G hG hn hS')
  have M2 : Hid (∀ (b cap : Nat) (w : World), BytesAt w b 0 (S.data.toList.set k c') → Calls Tryd.prog 33 #[.slice (some ⟨b, 0, none⟩) S.size cap] w fun e w' => e = .returned (.complex .f64 (fk 0 H.1) (fk 0 H.2)) ∧ w = w') := Lib.hid (by
    intro b cap w hb
    have h := mark_gc b 0 cap (S.data.toList.set k c') (by rw [List.length_set]; exact hS') w hb
    rw [List.length_set, hH] at h
    exact h)
  have HCELL : Hid (∀ w, (Lib.bytesWorld w 5 S).cell? ⟨w.heap.size, k, none⟩ = some (.int .u8 (c.toNat : Int))) := Lib.hid (by
    intro w
    have := bytesAt_str w 5 S k hkl
    rw [Nat.zero_add, hc] at this
    exact this)
  have n1 : ¬ at' < 0 := by omega
  have n2 : ((S.size : Int) == 0) = false := by rw [beq_eq_false_iff_ne]; omega
  have n3 : ¬ (S.size : Int) = 0 := by omega
  have i0 : (0 : Int) ≤ (k : Int) ∧ (k : Int) < (S.size : Int) := by omega
  clear hG hH hc hc' hxz
  have HK := Lib.hid hkl
  go_enter Tryd.func8, Tryd.ntmps8
  go_wp2_with fail
  refine HB.out.mono ?_
  rintro _ w0 ⟨rfl, hb0⟩
  go_wp2_with fail
  refine (C1.out _).mono ?_
  rintro _ w' ⟨rfl, rfl⟩
  have d0 := HCELL.out w0
  have d1 := bytesWorld_free w0 5 S k HK.out
  go_wp2_with fail
  refine (M2.out w0.heap.size _ _ ((bytesAt_str w0 5 S).set k HK.out c')).mono ?_
  rintro _ w' ⟨rfl, rfl⟩
  have hb1 : Below w0.heap.size w0 ((Lib.bytesWorld w0 5 S).setCell ⟨w0.heap.size, k, none⟩ (.int .u8 (c'.toNat : Int))) := (Lib.bytesWorld_below w0 5 S).setCell (Nat.le_refl _) _
  generalize (Lib.bytesWorld w0 5 S).setCell ⟨w0.heap.size, k, none⟩ (.int .u8 (c'.toNat : Int)) = w1 at *
  clear d0 d1
  go_wp2_with fail
  refine (M1.out w1.heap.size _ _ rfl _ (bytesAt_str _ _ _)).mono ?_
  rintro _ w' ⟨rfl, rfl⟩
  have hb2 := Lib.bytesWorld_below w1 5 S
  have s0 := hb0.size
  have s1 := hb1.size
  have hB := (hb0.trans (hb1.mono (by omega))).trans (hb2.mono (by omega))
  generalize Lib.bytesWorld w1 5 S = w2 at *
  clear s0 s1
  by_cases hx : x = 0
  · obtain rfl := hHG.2 hx
    have e1 := self_ok hokG
    have t0 : (x == 0) = true := by rw [beq_iff_eq]; exact hx
    clear hHG hx
    go_wp2_with fail
    go_ret
    exact ⟨rfl, hB⟩
  · have hne : ¬ H = G := fun e => hx (hHG.1 e)
    have e1 := eqF_ok hokH hokG
    rw [decide_eq_false hne] at e1
    unfold eqF at e1
    have t0 : (x == 0) = false := by rw [beq_eq_false_iff_ne]; exact hx
    have t1 : ¬ x = 0 := hx
    clear hHG hx hne
    go_wp2_with fail
    go_ret
    exact ⟨rfl, hB⟩

set_option maxRecDepth 100000 in
set_option maxHeartbeats 1000000 in
theorem markTurn_out (s : ByteArray) (at' x : Int) (w : World) (hbg : BegunTrue) (h : LibAt w) (ho : at' < 0 ∨ (cutS s 150).size = 0) :
    Calls Tryd.prog 8 #[.string s, .int .i64 at', .int .u8 x] w fun e w' => e = .returned (.bool true) ∧ Below w.heap.size w w' := by
  have HB := Lib.hid (hbg w h)
  clear hbg h
  have C1 := Lib.hid (cut_any s 150)
  generalize cutS s 150 = S at *
  by_cases h0 : S.size = 0
  · have n2 : ((S.size : Int) == 0) = true := by rw [beq_iff_eq]; omega
    have n3 : (S.size : Int) = 0 := by omega
    clear ho h0
    go_enter Tryd.func8, Tryd.ntmps8
    go_wp2_with fail
    refine HB.out.mono ?_
    rintro _ w0 ⟨rfl, hb0⟩
    go_wp2_with fail
    refine (C1.out _).mono ?_
    rintro _ w' ⟨rfl, rfl⟩
    go_wp2_with fail
    go_ret
    exact ⟨rfl, hb0⟩
  · have n1 : at' < 0 := by omega
    have n2 : ((S.size : Int) == 0) = false := by rw [beq_eq_false_iff_ne]; omega
    have n3 : ¬ (S.size : Int) = 0 := by omega
    clear ho h0
    go_enter Tryd.func8, Tryd.ntmps8
    go_wp2_with fail
    refine HB.out.mono ?_
    rintro _ w0 ⟨rfl, hb0⟩
    go_wp2_with fail
    refine (C1.out _).mono ?_
    rintro _ w' ⟨rfl, rfl⟩
    go_wp2_with fail
    go_ret
    exact ⟨rfl, hb0⟩

theorem markTurn_walk (s : ByteArray) (at' x : Int) (w : World) (hbg : BegunTrue) (h : LibAt w) (hx0 : 0 ≤ x) (hx1 : x ≤ 255) :
    Calls Tryd.prog 8 #[.string s, .int .i64 at', .int .u8 x] w fun e w' => e = .returned (.bool true) ∧ Below w.heap.size w w' := by
  by_cases ho : at' < 0 ∨ (cutS s 150).size = 0
  · exact markTurn_out s at' x w hbg h ho
  · exact markTurn_in s at' x w hbg h hx0 hx1 (by omega) (by omega)

end Go.Proofs.YtamennoehnigaaaDoor
