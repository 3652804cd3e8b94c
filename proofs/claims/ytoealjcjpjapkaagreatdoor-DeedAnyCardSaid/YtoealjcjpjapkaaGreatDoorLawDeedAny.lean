/-
 Contracts of the program, and what they rest on.
-/
import Derived.Test.YtoealjcjpjapkaaGreatDoorM04
import Derived.Test.YtoealjcjpjapkaaGreatDoorRA
import Derived.Test.YtoealjcjpjapkaaGreatDoorLdA
import Derived.Test.YtoealjcjpjapkaaGreatDoorRefP
import Derived.Test.YtoealjcjpjapkaaGreatDoorLdT
import Derived.Test.YtoealjcjpjapkaaGreatDoorLd5
import Derived.Test.YtoealjcjpjapkaaGreatDoorLawXor
set_option maxRecDepth 100000
set_option maxHeartbeats 16000000
namespace Go.Proofs.YtoealjcjpjapkaaGreatDoor
open Go.RowKit
theorem conv_back5 {w : World} {g cap : Nat} {T : ByteArray} (h : BytesAt w g 0 T.data.toList) :
  (convert 50 9 (.slice (some ⟨g, 0, none⟩) T.size cap)).run Tryz.prog w = .ok (.string T) w := by
 have h1 := run_convert_bytes_back (P := Tryz.prog) w 50 9 5 ⟨g, 0, none⟩ cap T.data.toList Tryz.underlying50 Tryz.underlying5 Tryz.underlying9 (fun j hj => by
  have := h j hj
  rw [addr_flat]
  exact this)
 exact h1
def turnT5 (T : ByteArray) (k : Nat) (c : UInt8) : ByteArray := ⟨(T.data.toList.set k c).toArray⟩
theorem turnT5_size (T : ByteArray) (k : Nat) (c : UInt8) : (turnT5 T k c).size = T.size := by
 show ((T.data.toList.set k c).toArray).size = _
 simp
theorem deedAny_walk (s : ByteArray) (d : De) (at' x : Int) (w : World) (hbg : Begun5True) (h : LibAt w) (hwf : d.wf) (hx0 : 0 ≤ x) (hx1 : x ≤ 255) :
  Calls Tryz.prog 4 #[.string s, dagg d, .int .i64 at', .int .u8 x] w fun e w' => e = .returned (.bool true) ∧ Below w.heap.size w w' := by
 have hb0 : ∀ t, Below w.heap.size w (w.alloc (.cells #[.int .i64 d.kind, .string d.key, .string d.body, .int .i64 d.ver, .int .i64 d.cond, .string d.tag, .int .i64 d.req, .int .i64 d.low] t)) := fun t => (Below.refl _ _).alloc (Nat.le_refl _) _
 have HB0 := Lib.hid (hb0 23)
 have HD0 := Lib.hid (And.intro (DeC.new w d 23) (DeW.new w d 23))
 have HB := Lib.hid (hbg _ (h.below HB0.out))
 have HL := Lib.hid h
 have HC := Lib.hid (ldeed_p d)
 have hwf' := cutD_wf hwf
 have hbd := cutD_bd d
 have C1 := Lib.hid (cut_any s 60)
 have hS := cutS_size s 60
 generalize cutS s 60 = S at *
 obtain ⟨kind, key, body, ver, cond, tag, req, low⟩ := d
 generalize cutD ⟨kind, key, body, ver, cond, tag, req, low⟩ = c at *
 obtain ⟨kind', key', body', ver', cond', tag', req', low'⟩ := c
 obtain ⟨bb, hbb, hh⟩ := both_may ⟨kind', key', body', ver', cond', tag', req', low'⟩
 obtain ⟨T, hTs, -, -, -, -, hP⟩ := hh (by dsimp only at hbd ⊢; omega) hwf' (by dsimp only at hbd ⊢; omega) (by dsimp only at hbd ⊢; omega)
 simp only [dagg] at hP
 have HP := Lib.hid hP
 clear hbg h hwf hb0 hwf' hbd hh hP hbb
 unfold dagg at *
 dsimp only at *
 go_enter Tryz.func4, Tryz.ntmps4
 go_wp2_with fail
 refine HB.out.mono ?_
 rintro _ w0 ⟨rfl, hb1⟩
 have HB1 := Lib.hid (HB0.out.trans (hb1.mono HB0.out.size))
 have hc0 := HD0.out.1.below hb1
 have hwl : w.heap.size < (w.alloc (.cells #[.int .i64 kind, .string key, .string body, .int .i64 ver, .int .i64 cond, .string tag, .int .i64 req, .int .i64 low] 23)).heap.size := by simp
 have hf0 := HD0.out.2.below hwl hb1
 clear hb1 hwl HD0
 go_wp2_with fail
 have hdr : Below w0.heap.size w0 w0.drew := (Below.refl w0.heap.size w0).drew
 have hwl0 : w.heap.size < w0.heap.size := World.block_lt_of_cell? w0 _ hc0.1
 have hS0 := hc0.below hdr
 have HF0 := Lib.hid (hf0.below hwl0 hdr)
 have HB2 := Lib.hid (HB1.out.trans (hdr.mono HB1.out.size))
 have hwl1 : w.heap.size < w0.drew.heap.size := hwl0
 refine wp_region_D (S := fun L Y => L.getD 5 false = false → DeC Y w.heap.size ⟨kind, key, body, ver, cond, tag, req, low⟩) (by kernel_rfl) (fun _ => hS0) (fun hS0 => ?_)
 refine wpAnyD_take (i := 0) (v := Value.string s) rfl (by kernel_rfl) (by kernel_rfl) (by kernel_rfl) (by kernel_rfl) (fun _ _ _ h => h) (fun L w => by simp only [getD_set_ne false (by decide : (0 : Nat) ≠ 5)]) (by kernel_rfl) hS0 ⟨by rfl, fun L w' hL hD hS => ?_⟩ (fun hS0 => ?_)
 ·refine .inl ?_
  go_simp
 refine wpAnyD_take (i := 1) (v := Value.string S) rfl (by kernel_rfl) (by kernel_rfl) (by kernel_rfl) (by kernel_rfl) (fun _ _ _ h => h) (fun L w => by simp only [getD_set_ne false (by decide : (1 : Nat) ≠ 5)]) (by kernel_rfl) hS0 ⟨by rfl, fun L w' hL hD hS => ?_⟩ (fun hS0 => ?_)
 ·refine .inr ⟨_, _, by first | rfl | (go_simp; rfl) | go_simp, (C1.out w').mono (fun e w'' h => ⟨h.1, h.2⟩)⟩
 refine wpAnyD_take (i := 2) (v := Value.agg #[.int .i64 kind, .string key, .string body, .int .i64 ver, .int .i64 cond, .string tag, .int .i64 req, .int .i64 low]) rfl (by kernel_rfl) (by kernel_rfl) (by kernel_rfl) (by kernel_rfl) (fun _ _ _ h => h) (fun L w => by simp only [getD_set_ne false (by decide : (2 : Nat) ≠ 5)]) (by kernel_rfl) hS0 ⟨by rfl, fun L w' hL hD hS => ?_⟩ (fun hS0 => ?_)
 ·obtain ⟨d0, d1, d2, d3, d4, d5, d6, d7⟩ := hS (blocked (j := 5) hD hL (by kernel_rfl))
  dsimp only at d0 d1 d2 d3 d4 d5 d6 d7
  refine .inl ?_
  go_simp
 simp only [List.getElem_toArray, List.getElem_cons_succ, List.getElem_cons_zero, Act.put, List.setIfInBounds_toArray, List.set_cons_zero, List.set_cons_succ]
 refine wpAnyD_one (i := 3) (by kernel_rfl) rfl (by kernel_rfl) (fun K hK => ?_)
 simp only [List.getElem_toArray, List.getElem_cons_succ, List.getElem_cons_zero]
 go_simp
 refine (HC.out _).mono ?_
 rintro _ w1 ⟨rfl, hb2⟩
 have hc1 := (hS0 (by rfl)).below hb2
 have hf1 := HF0.out.below hwl1 hb2
 have HB3 := Lib.hid (HB2.out.trans (hb2.mono HB2.out.size))
 have HW := Lib.hid (And.intro (putD_de hc1 hf1 ⟨kind', key', body', ver', cond', tag', req', low'⟩) (And.intro (putD_w hf1 ⟨kind', key', body', ver', cond', tag', req', low'⟩) (putD_below HB3.out (Nat.le_refl _) ⟨kind', key', body', ver', cond', tag', req', low'⟩)))
 refine hK.out _ _ (fun _ => hc1) (fun hS0 => ?_)
 clear hK hb2 HB2 HF0
 obtain ⟨d0, d1, d2, d3, d4, d5, d6, d7⟩ := hc1
 obtain ⟨f0, f1, f2, f3, f4, f5, f6, f7⟩ := hf1
 dsimp only at d0 d1 d2 d3 d4 d5 d6 d7 HW
 refine wpAnyD_take (i := 4) (v := Value.string S) rfl (by kernel_rfl) (by kernel_rfl) (by kernel_rfl) (by kernel_rfl) (fun _ _ _ h => h) (fun L w => by simp only [getD_set_ne false (by decide : (4 : Nat) ≠ 5)]) (by kernel_rfl) hS0 ⟨by rfl, fun L w' hL hD hS => ?_⟩ (fun hS0 => ?_)
 ·refine .inl ?_
  go_simp
 refine wpAnyD_one (i := 5) (by kernel_rfl) rfl (by kernel_rfl) (fun K hK => ?_)
 simp only [List.getElem_toArray, List.getElem_cons_succ, List.getElem_cons_zero]
 go_simp
 refine hK.out _ _ (fun h => (by cases h)) (fun hS0 => ?_)
 clear hK d0 d1 d2 d3 d4 d5 d6 d7 f0 f1 f2 f3 f4 f5 f6 f7
 refine wpAnyD_done (by kernel_rfl) ?_ _
 generalize ((((((((w1.setCell ⟨w.heap.size, 0, none⟩ (.int .i64 kind')).setCell ⟨w.heap.size, 1, none⟩ (.string key')).setCell ⟨w.heap.size, 2, none⟩ (.string body')).setCell ⟨w.heap.size, 3, none⟩ (.int .i64 ver')).setCell ⟨w.heap.size, 4, none⟩ (.int .i64 cond')).setCell ⟨w.heap.size, 5, none⟩ (.string tag')).setCell ⟨w.heap.size, 6, none⟩ (.int .i64 req')).setCell ⟨w.heap.size, 7, none⟩ (.int .i64 low')) = V0 at *
 obtain ⟨d0, d1, d2, d3, d4, d5, d6, d7⟩ := HW.out.1
 dsimp only at d0 d1 d2 d3 d4 d5 d6 d7
 have HBV := Lib.hid HW.out.2.2
 clear HW HC C1 hS0 hc0 hf0 hdr hwl0 hwl1 HB3 HB1 HB0 HB
 go_wp2_with fail
 refine (HP.out _ (HL.out.below HBV.out)).mono ?_
 rintro _ w3 ⟨rfl, hb3⟩
 have HB4 := Lib.hid (HBV.out.trans (hb3.mono HBV.out.size))
 clear hb3 d0 d1 d2 d3 d4 d5 d6 d7 HBV
 go_wp2_with fail
 refine (ldtells_p S (by omega) w3 (HL.out.below HB4.out)).mono ?_
 rintro _ w4 ⟨rfl, hb4⟩
 have H4 := Lib.hid (HB4.out.trans (hb4.mono HB4.out.size))
 clear hb4 HB4
 by_cases h0 : T.size = 0
 ·obtain rfl := ba_size0 h0
  clear h0
  go_wp2_with fail
  refine (ldtells_p S (by omega) w4 (HL.out.below H4.out)).mono ?_
  rintro _ w5 ⟨rfl, hb5⟩
  have H5 := Lib.hid (H4.out.trans (hb5.mono H4.out.size))
  clear hb5
  go_wp2_with fail
  go_ret
  exact ⟨rfl, H5.out⟩
 have h1 := isEmpty_ne h0
 by_cases h2 : at' < 0
 ·go_wp2_with fail
  refine (ldtells_p S (by omega) w4 (HL.out.below H4.out)).mono ?_
  rintro _ w5 ⟨rfl, hb5⟩
  have H5 := Lib.hid (H4.out.trans (hb5.mono H4.out.size))
  clear hb5
  go_wp2_with fail
  go_ret
  exact ⟨rfl, H5.out⟩
 have v1 := conv_str T
 obtain ⟨j, hj⟩ : ∃ j : Nat, at' % (T.size : Int) = (j : Int) := ⟨(at' % (T.size : Int)).toNat, by have := Int.emod_nonneg at' (show (T.size : Int) ≠ 0 by omega); omega⟩
 have hjl : j < T.size := by have := Int.emod_lt_of_pos at' (show (0 : Int) < (T.size : Int) by omega); omega
 obtain ⟨c, hc⟩ : ∃ c, T.data.toList[j]'hjl = c := ⟨_, rfl⟩
 obtain ⟨hxor, _⟩ := xor_byte c x hx0 hx1
 obtain ⟨c', hc'⟩ : ∃ c', c ^^^ UInt8.ofNat x.toNat = c' := ⟨_, rfl⟩
 rw [hc'] at hxor
 have HCELL : Hid (∀ w, (Lib.bytesWorld w 5 T).cell? ⟨w.heap.size, j, none⟩ = some (.int .u8 (c.toNat : Int))) := Lib.hid (by
  intro w
  have := bytesAt_str w 5 T j hjl
  rw [Nat.zero_add, hc] at this
  exact this)
 have HJ := Lib.hid hjl
 have n2 : ((T.size : Int) == 0) = false := by rw [beq_eq_false_iff_ne]; omega
 have n3 : ¬ (T.size : Int) = 0 := by omega
 have i0 : (0 : Int) ≤ (j : Int) ∧ (j : Int) < (T.size : Int) := by omega
 have i1 : j ≤ T.size := by omega
 have hsum3 : T.size + S.size ≤ 9223372036854775807 := by omega
 have hTS : (T ++ S).size ≤ 9223372036854775807 := by rw [ByteArray.size_append]; omega
 have hTe : (T.extract 0 j).size ≤ 9223372036854775807 := by rw [ByteArray.size_extract]; omega
 have HSZ := Lib.hid (And.intro hTS hTe)
 clear hc hc' h0 hTS hTe
 have e0 := HCELL.out w4
 have e1 := bytesWorld_free w4 5 T j HJ.out
 have hb5 : Below w4.heap.size w4 ((Lib.bytesWorld w4 5 T).setCell ⟨w4.heap.size, j, none⟩ (.int .u8 (c'.toNat : Int))) := (Lib.bytesWorld_below w4 5 T).setCell (Nat.le_refl _) _
 have hby5 : BytesAt ((Lib.bytesWorld w4 5 T).setCell ⟨w4.heap.size, j, none⟩ (.int .u8 (c'.toNat : Int))) w4.heap.size 0 (turnT5 T j c').data.toList := by
  have := (bytesAt_str w4 5 T).set j HJ.out c'
  show BytesAt _ _ _ ((T.data.toList.set j c').toArray).toList
  simpa using this
 have hcv := conv_back5 (cap := grownCap w4 T.size 0 5) hby5
 rw [turnT5_size] at hcv
 have htz : (turnT5 T j c').size ≤ 9223372036854775807 := by rw [turnT5_size]; omega
 generalize turnT5 T j c' = T' at *
 have H5 := Lib.hid (H4.out.trans (hb5.mono H4.out.size))
 clear hb5 hby5
 go_wp2_with fail
 generalize (Lib.bytesWorld w4 5 T).setCell ⟨w4.heap.size, j, none⟩ (.int .u8 (c'.toNat : Int)) = w5 at *
 clear e0 e1 hcv HCELL hxor
 refine (ldtells_p T' htz w5 (HL.out.below H5.out)).mono ?_
 rintro _ w6 ⟨rfl, hb6⟩
 have H6 := Lib.hid (H5.out.trans (hb6.mono H5.out.size))
 clear hb6
 go_wp2_with fail
 refine (ldtells_p (T.extract 0 j) HSZ.out.2 w6 (HL.out.below H6.out)).mono ?_
 rintro _ w7 ⟨rfl, hb7⟩
 have H7 := Lib.hid (H6.out.trans (hb7.mono H6.out.size))
 clear hb7
 go_wp2_with fail
 refine (ldtells_p (T ++ S) HSZ.out.1 w7 (HL.out.below H7.out)).mono ?_
 rintro _ w8 ⟨rfl, hb8⟩
 have H8 := Lib.hid (H7.out.trans (hb8.mono H7.out.size))
 clear hb8
 go_wp2_with fail
 go_ret
 exact ⟨rfl, H8.out⟩
end Go.Proofs.YtoealjcjpjapkaaGreatDoor
