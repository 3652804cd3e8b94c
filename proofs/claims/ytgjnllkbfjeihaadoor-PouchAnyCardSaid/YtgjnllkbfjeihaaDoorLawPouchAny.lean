/-
  PouchAny answers true.
-/
import Derived.Test.YtgjnllkbfjeihaaDoorTells
import Derived.Test.YtgjnllkbfjeihaaDoorMark
import Derived.Test.YtgjnllkbfjeihaaDoorLawXor
import Derived.Test.YtgjnllkbfjeihaaDoorTrip
namespace Go.Proofs.YtgjnllkbfjeihaaDoor
open Go.RowKit

/-- 'string(b)' of bytes that lie in a block. -/
theorem conv_back {w : World} {g cap : Nat} {T : ByteArray} (h : BytesAt w g 0 T.data.toList) :
    (convert 33 9 (.slice (some ⟨g, 0, none⟩) T.size cap)).run Tryd.prog w = .ok (.string T) w := by
  have h1 := run_convert_bytes_back (P := Tryd.prog) w 33 9 5 ⟨g, 0, none⟩ cap T.data.toList Tryd.underlying33 Tryd.underlying5 Tryd.underlying9 (fun j hj => by
    have := h j hj
    rw [addr_flat]
    exact this)
  exact h1

/-- A text with one byte turned. -/
def turnT (T : ByteArray) (k : Nat) (c : UInt8) : ByteArray := ⟨(T.data.toList.set k c).toArray⟩

theorem turnT_size (T : ByteArray) (k : Nat) (c : UInt8) : (turnT T k c).size = T.size := by
  show ((T.data.toList.set k c).toArray).size = _
  simp

/-- What the last region reads. -/
def AnyS (b T5 V : Nat) (T' : ByteArray) (k n : Int) (s : ByteArray) (ad1 ad2 : Option Addr) (len c1 c2 : Nat) (W : World) : Prop :=
  BytesAt W b 0 T'.data.toList ∧ b < W.heap.size ∧ CelV W T5 k n s ad1 len c1 ∧ CelV W V k n s ad2 len c2

theorem CelV.lt {w : World} {b : Nat} {k n : Int} {s : ByteArray} {ad : Option Addr} {len cap : Nat} (h : CelV w b k n s ad len cap) : b < w.heap.size := World.block_lt_of_cell? w _ h.1

theorem AnyS.below {b T5 V : Nat} {T' : ByteArray} {k n : Int} {s : ByteArray} {ad1 ad2 : Option Addr} {len c1 c2 : Nat} {W W' : World} (h : AnyS b T5 V T' k n s ad1 ad2 len c1 c2 W) (hb : Below W.heap.size W W') : AnyS b T5 V T' k n s ad1 ad2 len c1 c2 W' :=
  ⟨h.1.below hb h.2.1, Nat.lt_of_lt_of_le h.2.1 hb.size, h.2.2.1.kept (hb.block _ h.2.2.1.lt), h.2.2.2.kept (hb.block _ h.2.2.2.lt)⟩

set_option maxRecDepth 100000 in
set_option maxHeartbeats 4000000 in
/-- Where there is no text, or the place is below nought. -/
theorem pouchAny_out (s : ByteArray) (k n : Int) (sa : ByteArray) (l : F) (ad : Option Addr) (cap : Nat) (at' x : Int) (w : World) (hbg : BegunTrue) (h : LibAt w) (hr : RepS w ad l) (hby : l.len * 56 ≤ 140737488355328) (hfit : l.fit) (hn : -9223372036854775808 ≤ n ∧ n ≤ 9223372036854775807) (hwf : l.wf)
    (ho : (putS k n sa l).size = 0 ∨ at' < 0) :
    Calls Tryd.prog 3 #[.string s, .agg #[.int .i64 k, .int .i64 n, .string sa, .slice ad l.len cap], .int .i64 at', .int .u8 x] w fun e w' => e = .returned (.bool true) ∧ Below w.heap.size w w' := by
  have hb0 : Below w.heap.size w (w.alloc (.cells #[.int .i64 k, .int .i64 n, .string sa, .slice ad l.len cap] 24)) := (Below.refl _ _).alloc (Nat.le_refl _) _
  have HB := Lib.hid (hbg _ (h.below hb0))
  have HL := Lib.hid h
  have HR := Lib.hid (And.intro hr (And.intro hby (And.intro hfit (And.intro hn hwf))))
  have hV : ∀ ty, CelV (w.alloc (.cells #[.int .i64 k, .int .i64 n, .string sa, .slice ad l.len cap] ty)) w.heap.size k n sa ad l.len cap := by
    intro ty
    refine ⟨?_, ?_, ?_, ?_⟩ <;> go_simp
  have HV := Lib.hid (hV 24)
  have H0 := Lib.hid hb0
  have C1 := Lib.hid (cut_any s 60)
  have hS := cutS_size s 60
  generalize cutS s 60 = S at *
  clear hbg h hr hby hfit hn hwf hV hb0
  go_enter Tryd.func3, Tryd.ntmps3
  go_wp2_with fail
  refine HB.out.mono ?_
  rintro _ w0 ⟨rfl, hb1⟩
  obtain ⟨c0, c1, c2, c3⟩ := HV.out.kept (hb1.block w.heap.size (by simp))
  have H1 := Lib.hid (H0.out.trans (hb1.mono (by simp)))
  clear hb1
  go_wp2_with fail
  refine (C1.out _).mono ?_
  rintro _ w' ⟨rfl, rfl⟩
  go_wp2_with fail
  refine (back_c k n sa l ad cap w0 HR.out.2.1 HR.out.2.2.1 (HR.out.1.below H1.out)).mono ?_
  rintro _ w2 ⟨hb2, ad2, cap2, rfl, hg2⟩
  have H2 := Lib.hid (H1.out.trans (hb2.mono H1.out.size))
  have HG2 := Lib.hid hg2.repS
  clear hb2 hg2
  go_wp2_with fail
  refine (Put_p k n sa l ad2 cap2 w2 (HL.out.below H2.out).2.2.2 HR.out.2.2.2.1 HR.out.2.2.2.2 HG2.out).mono ?_
  rintro _ w3 ⟨rfl, hb3⟩
  have H3 := Lib.hid (H2.out.trans (hb3.mono H2.out.size))
  clear hb3
  go_wp2_with fail
  refine (tells_p S w3 (by omega) (HL.out.below H3.out)).mono ?_
  rintro _ w4 ⟨rfl, hb4⟩
  have H4 := Lib.hid (H3.out.trans (hb4.mono H3.out.size))
  clear hb4
  generalize putS k n sa l = T at *
  by_cases h0 : T.size = 0
  · obtain rfl := empty_of_size h0
    clear ho h0
    go_wp2_with fail
    refine (tells_p S w4 (by omega) (HL.out.below H4.out)).mono ?_
    rintro _ w5 ⟨rfl, hb5⟩
    have H5 := Lib.hid (H4.out.trans (hb5.mono H4.out.size))
    clear hb5
    go_wp2_with fail
    go_ret
    exact ⟨rfl, H5.out⟩
  · have h1 := isEmpty_ne h0
    have h2 : at' < 0 := by omega
    clear ho
    go_wp2_with fail
    refine (tells_p S w4 (by omega) (HL.out.below H4.out)).mono ?_
    rintro _ w5 ⟨rfl, hb5⟩
    have H5 := Lib.hid (H4.out.trans (hb5.mono H4.out.size))
    clear hb5
    go_wp2_with fail
    go_ret
    exact ⟨rfl, H5.out⟩

set_option maxRecDepth 100000 in
set_option maxHeartbeats 8000000 in
theorem pouchAny_in (s : ByteArray) (k n : Int) (sa : ByteArray) (l : F) (ad : Option Addr) (cap : Nat) (at' x : Int) (w : World) (hbg : BegunTrue) (h : LibAt w) (hr : RepS w ad l) (hby : l.len * 56 ≤ 140737488355328) (hfit : l.fit) (hn : -9223372036854775808 ≤ n ∧ n ≤ 9223372036854775807) (hwf : l.wf)
    (hx0 : 0 ≤ x) (hx1 : x ≤ 255) (ho : ¬ (putS k n sa l).size = 0) (ha : 0 ≤ at') :
    Calls Tryd.prog 3 #[.string s, .agg #[.int .i64 k, .int .i64 n, .string sa, .slice ad l.len cap], .int .i64 at', .int .u8 x] w fun e w' => e = .returned (.bool true) ∧ Below w.heap.size w w' := by
  have hb0 : Below w.heap.size w (w.alloc (.cells #[.int .i64 k, .int .i64 n, .string sa, .slice ad l.len cap] 24)) := (Below.refl _ _).alloc (Nat.le_refl _) _
  have HB := Lib.hid (hbg _ (h.below hb0))
  have HL := Lib.hid h
  have HR := Lib.hid (And.intro hr (And.intro hby (And.intro hfit (And.intro hn hwf))))
  have hV : ∀ ty, CelV (w.alloc (.cells #[.int .i64 k, .int .i64 n, .string sa, .slice ad l.len cap] ty)) w.heap.size k n sa ad l.len cap := by
    intro ty
    refine ⟨?_, ?_, ?_, ?_⟩ <;> go_simp
  have HV := Lib.hid (hV 24)
  have H0 := Lib.hid hb0
  have C1 := Lib.hid (cut_any s 60)
  have hS := cutS_size s 60
  generalize cutS s 60 = S at *
  clear hbg h hr hby hfit hn hwf hV hb0
  go_enter Tryd.func3, Tryd.ntmps3
  go_wp2_with fail
  refine HB.out.mono ?_
  rintro _ w0 ⟨rfl, hb1⟩
  obtain ⟨c0, c1, c2, c3⟩ := HV.out.kept (hb1.block w.heap.size (by simp))
  have H1 := Lib.hid (H0.out.trans (hb1.mono (by simp)))
  clear hb1
  go_wp2_with fail
  refine (C1.out _).mono ?_
  rintro _ w' ⟨rfl, rfl⟩
  go_wp2_with fail
  refine (back_c k n sa l ad cap w0 HR.out.2.1 HR.out.2.2.1 (HR.out.1.below H1.out)).mono ?_
  rintro _ w2 ⟨hb2, ad2, cap2, rfl, hg2⟩
  have hwl : w.heap.size < w0.heap.size := World.block_lt_of_cell? w0 _ c0
  have HW2 := Lib.hid (hb2.block w.heap.size hwl)
  have H2 := Lib.hid (H1.out.trans (hb2.mono H1.out.size))
  have HX2 : Hid (w.heap.size < w2.heap.size) := Lib.hid (Nat.lt_of_lt_of_le hwl hb2.size)
  clear hwl
  have HG2 := Lib.hid hg2.repS
  clear hb2 hg2
  go_wp2_with fail
  refine (Put_p k n sa l ad2 cap2 w2 (HL.out.below H2.out).2.2.2 HR.out.2.2.2.1 HR.out.2.2.2.2 HG2.out).mono ?_
  rintro _ w3 ⟨rfl, hb3⟩
  have HW3 := Lib.hid ((hb3.block w.heap.size (by have := H2.out.size; have := HX2.out; omega)).trans HW2.out)
  have HX3 := Lib.hid hb3.size
  have H3 := Lib.hid (H2.out.trans (hb3.mono H2.out.size))
  clear hb3
  go_wp2_with fail
  refine (tells_p S w3 (by omega) (HL.out.below H3.out)).mono ?_
  rintro _ w4 ⟨rfl, hb4⟩
  have HW4 := Lib.hid ((hb4.block w.heap.size (by have := HX2.out; have := HX3.out; omega)).trans HW3.out)
  have H4 := Lib.hid (H3.out.trans (hb4.mono H3.out.size))
  clear hb4
  have hmay : vmay k n sa l = true := by
    by_cases hm : vmay k n sa l = true
    · exact hm
    · exfalso; apply ho; unfold putS; rw [if_neg hm]; rfl
  have hcnt : l.cnt ≤ 1000000 := by
    unfold vmay vmayB at hmay
    simp only [Bool.and_eq_true, decide_eq_true_eq] at hmay
    omega
  have hps : putS k n sa l = putV k n sa l := by unfold putS; rw [if_pos hmay]
  rw [hps] at ho ⊢
  have hTs := putV_size k n sa l
  have TR := trip_p k n sa l hmay HR.out.2.2.2.1 HR.out.2.2.2.2 ho S
  have HG := Lib.hid (fun w1 h => Get_p (putV k n sa l ++ S) w1 (by rw [ByteArray.size_append]; omega) h)
  rw [TR] at HG
  unfold GetV at HG
  have HC := Lib.hid (And.intro hcnt hmay)
  clear hps hmay TR hcnt
  generalize putV k n sa l = T at *
  have hsum : T.size + S.size ≤ 10000082 := by omega
  have hsum2 : (T ++ S).size ≤ 9223372036854775807 := by rw [ByteArray.size_append]; omega
  have HTS := Lib.hid hsum2
  have hsum3 : T.size + S.size ≤ 9223372036854775807 := by omega
  have v1 := conv_str T
  obtain ⟨j, hj⟩ : ∃ j : Nat, at' % (T.size : Int) = (j : Int) := ⟨(at' % (T.size : Int)).toNat, by have := Int.emod_nonneg at' (show (T.size : Int) ≠ 0 by omega); omega⟩
  have hjl : j < T.size := by have := Int.emod_lt_of_pos at' (show (0 : Int) < (T.size : Int) by omega); omega
  obtain ⟨c, hc⟩ : ∃ c, T.data.toList[j]'hjl = c := ⟨_, rfl⟩
  obtain ⟨hxor, _⟩ := xor_byte c x hx0 hx1
  obtain ⟨c', hc'⟩ : ∃ c', c ^^^ UInt8.ofNat x.toNat = c' := ⟨_, rfl⟩
  rw [hc'] at hxor
  have HCELL : Hid (∀ w, (Lib.bytesWorld w 5 T).cell? ⟨w.heap.size, j, none⟩ = some (.int .u8 (c.toNat : Int))) := Lib.hid (by
    intro w
    have := bytesAt_str w 5 T j hjl
    rw [Nat.zero_add, hc] at this
    exact this)
  have HJ := Lib.hid hjl
  have n1 : ¬ at' < 0 := by omega
  have n2 : ((T.size : Int) == 0) = false := by rw [beq_eq_false_iff_ne]; omega
  have n3 : ¬ (T.size : Int) = 0 := by omega
  have i0 : (0 : Int) ≤ (j : Int) ∧ (j : Int) < (T.size : Int) := by omega
  have h1 := isEmpty_ne ho
  clear hc hc' hsum2 ho
  have c0 : w4.cell? ⟨w.heap.size, 0, none⟩ = some (.int .i64 k) := by rw [cell_congr (HW4.out)]; exact c0
  have c1 : w4.cell? ⟨w.heap.size, 1, none⟩ = some (.int .i64 n) := by rw [cell_congr (HW4.out)]; exact c1
  have c2 : w4.cell? ⟨w.heap.size, 2, none⟩ = some (.string sa) := by rw [cell_congr (HW4.out)]; exact c2
  have c3 : w4.cell? ⟨w.heap.size, 3, none⟩ = some (.slice ad l.len cap) := by rw [cell_congr (HW4.out)]; exact c3
  have e0 := HCELL.out w4
  have e1 := bytesWorld_free w4 5 T j HJ.out
  have HV4 : Hid (CelV w4 w.heap.size k n sa ad l.len cap) := Lib.hid ⟨c0, c1, c2, c3⟩
  clear c0 c1 c2 c3
  go_wp2_with fail
  have hb5 : Below w4.heap.size w4 ((Lib.bytesWorld w4 5 T).setCell ⟨w4.heap.size, j, none⟩ (.int .u8 (c'.toNat : Int))) := (Lib.bytesWorld_below w4 5 T).setCell (Nat.le_refl _) _
  have hby5 : BytesAt ((Lib.bytesWorld w4 5 T).setCell ⟨w4.heap.size, j, none⟩ (.int .u8 (c'.toNat : Int))) w4.heap.size 0 (turnT T j c').data.toList := by
    have := (bytesAt_str w4 5 T).set j HJ.out c'
    show BytesAt _ _ _ ((T.data.toList.set j c').toArray).toList
    simpa using this
  generalize (Lib.bytesWorld w4 5 T).setCell ⟨w4.heap.size, j, none⟩ (.int .u8 (c'.toNat : Int)) = w5 at *
  have hq : w4.heap.size < w5.heap.size := by
    have := hby5 j (by show j < ((T.data.toList.set j c').toArray).toList.length; simp; exact HJ.out)
    exact World.block_lt_of_cell? w5 _ this
  have H5 := Lib.hid (H4.out.trans (hb5.mono H4.out.size))
  have HV5 := Lib.hid (HV4.out.kept (hb5.block w.heap.size HV4.out.lt))
  have HY5 := Lib.hid (And.intro hby5 hq)
  obtain ⟨B, hBB⟩ : ∃ B, w4.heap.size = B := ⟨_, rfl⟩
  rw [hBB] at HY5 ⊢
  clear hb5 hby5 hq e0 e1 hBB
  refine (HG.out w5 (HL.out.below H5.out)).mono ?_
  rintro _ w6 ⟨hb6, ad3, cap3, rfl, hg6⟩
  have hV7 : ∀ ty, CelV (w6.alloc (.cells #[.int .i64 k, .int .i64 n, .string sa, .slice ad3 l.len cap3] ty)) w6.heap.size k n sa ad3 l.len cap3 := by
    intro ty
    refine ⟨?_, ?_, ?_, ?_⟩ <;> go_simp
  have hb7 : Below w5.heap.size w5 (w6.alloc (.cells #[.int .i64 k, .int .i64 n, .string sa, .slice ad3 l.len cap3] 30)) := hb6.alloc hb6.size _
  have H7 := Lib.hid (H5.out.trans (hb7.mono H5.out.size))
  have HS7 : Hid (AnyS B w.heap.size w6.heap.size (turnT T j c') k n sa ad ad3 l.len cap cap3 (w6.alloc (.cells #[.int .i64 k, .int .i64 n, .string sa, .slice ad3 l.len cap3] 30))) := Lib.hid ⟨HY5.out.1.below hb7 HY5.out.2, Nat.lt_of_lt_of_le HY5.out.2 hb7.size, HV5.out.kept (hb7.block _ HV5.out.lt), hV7 _⟩
  have HR7 : Hid (RepG (w6.alloc (.cells #[.int .i64 k, .int .i64 n, .string sa, .slice ad3 l.len cap3] 30)) (fun _ => True) ad3 l) := Lib.hid (hg6.to (fun b hb hl => ⟨trivial, heap_alloc_old _ _ hl⟩))
  clear hb6 hg6 hV7 hb7
  go_wp2_with fail
  generalize w6.alloc (.cells #[.int .i64 k, .int .i64 n, .string sa, .slice ad3 l.len cap3] 30) = W7 at *
  have hdr : Below W7.heap.size W7 W7.drew := (Below.refl W7.heap.size W7).drew
  have hS0 := HS7.out.below hdr
  have H8 := Lib.hid (H7.out.trans (hdr.mono H7.out.size))
  have HR8 : Hid (RepG W7.drew (fun _ => True) ad3 l) := Lib.hid (HR7.out.to (fun _ _ _ => ⟨trivial, rfl⟩))
  have htz : (turnT T j c').size ≤ 9223372036854775807 := by rw [turnT_size]; omega
  have hcv : ∀ w' : World, BytesAt w' B 0 (turnT T j c').data.toList → ∀ cp, (convert 33 9 (.slice (some ⟨B, 0, none⟩) T.size cp)).run Tryd.prog w' = .ok (.string (turnT T j c')) w' := fun w' h cp => by
    have := conv_back (cap := cp) h
    rwa [turnT_size] at this
  have HCV := Lib.hid (And.intro hcv htz)
  clear hcv htz
  generalize turnT T j c' = T' at *
  refine wp_region_held (S := AnyS B w.heap.size w6.heap.size T' k n sa ad ad3 l.len cap cap3) (by kernel_rfl) ?_
  change wpAnyH _ _ _ _ _ _ _ _ (World.drew W7)
  refine wpAnyH_take (i := 0) (v := Value.slice (some ⟨B, 0, none⟩) T.size (grownCap w4 T.size 0 5)) rfl (by kernel_rfl) (by kernel_rfl) (by kernel_rfl) (fun _ _ _ h => h) (Or.inl ⟨by kernel_rfl, ?_⟩) hS0 ?_
  · intro w' hS; go_simp
  refine wpAnyH_take (i := 1) (v := Value.string T') rfl (by kernel_rfl) (by kernel_rfl) (by kernel_rfl) (fun _ _ _ h => h) (Or.inl ⟨by kernel_rfl, ?_⟩) hS0 ?_
  · intro w' hS; have hc9 := HCV.out.1 w' hS.1 (grownCap w4 T.size 0 5); go_simp
  generalize World.drew W7 = W8 at *
  refine wpAnyH_ready (rs := [2]) (by kernel_rfl) (by simp) ?_
  refine AllReadyH.cons rfl (fun K hK => ?_) AllReadyH.nil
  rw [if_pos (by kernel_rfl)]
  go_simp
  refine (tells_p T' W8 HCV.out.2 (HL.out.below H8.out)).mono ?_
  rintro _ w9 ⟨rfl, hb9⟩
  have HR9 := Lib.hid (HR8.out.to (w' := w9) (A' := fun _ => True) (fun b _ hl => ⟨trivial, hb9.block b hl⟩))
  have H9 := Lib.hid (H8.out.trans (hb9.mono H8.out.size))
  refine hK.out _ _ (hS0.below hb9) (fun hS0 => ?_)
  clear hK hb9
  refine wpAnyH_take (i := 3) (v := Value.bool true) rfl (by kernel_rfl) (by kernel_rfl) (by kernel_rfl) (fun _ _ _ h => h) (Or.inl ⟨by kernel_rfl, ?_⟩) hS0 ?_
  · intro w' hS; go_simp
  refine wpAnyH_take (i := 4) (v := Value.string T) rfl (by kernel_rfl) (by kernel_rfl) (by kernel_rfl) (fun _ _ _ h => h) (Or.inl ⟨by kernel_rfl, ?_⟩) hS0 ?_
  · intro w' hS; go_simp
  refine wpAnyH_take (i := 5) (v := Value.string S) rfl (by kernel_rfl) (by kernel_rfl) (by kernel_rfl) (fun _ _ _ h => h) (Or.inl ⟨by kernel_rfl, ?_⟩) hS0 ?_
  · intro w' hS; go_simp
  refine wpAnyH_take (i := 6) (v := Value.string (T ++ S)) rfl (by kernel_rfl) (by kernel_rfl) (by kernel_rfl) (fun _ _ _ h => h) (Or.inl ⟨by kernel_rfl, ?_⟩) hS0 ?_
  · intro w' hS; go_simp
  refine wpAnyH_ready (rs := [7]) (by kernel_rfl) (by simp) ?_
  refine AllReadyH.cons rfl (fun K hK => ?_) AllReadyH.nil
  rw [if_pos (by kernel_rfl)]
  go_simp
  refine (tells_p (T ++ S) w9 HTS.out (HL.out.below H9.out)).mono ?_
  rintro _ w10 ⟨rfl, hb10⟩
  have HR10 := Lib.hid (HR9.out.to (w' := w10) (A' := fun _ => True) (fun b _ hl => ⟨trivial, hb10.block b hl⟩))
  have H10 := Lib.hid (H9.out.trans (hb10.mono H9.out.size))
  refine hK.out _ _ (hS0.below hb10) (fun hS0 => ?_)
  clear hK hb10
  refine wpAnyH_take (i := 8) (v := Value.bool true) rfl (by kernel_rfl) (by kernel_rfl) (by kernel_rfl) (fun _ _ _ h => h) (Or.inl ⟨by kernel_rfl, ?_⟩) hS0 ?_
  · intro w' hS; go_simp
  refine wpAnyH_take (i := 9) (v := Value.bool true) rfl (by kernel_rfl) (by kernel_rfl) (by kernel_rfl) (fun _ _ _ h => h) (Or.inl ⟨by kernel_rfl, ?_⟩) hS0 ?_
  · intro w' hS; go_simp
  refine wpAnyH_take (i := 10) (v := Value.int .i64 (T.size : Nat)) rfl (by kernel_rfl) (by kernel_rfl) (by kernel_rfl) (fun _ _ _ h => h) (Or.inl ⟨by kernel_rfl, ?_⟩) hS0 ?_
  · intro w' hS; go_simp
  refine wpAnyH_take (i := 11) (v := Value.string T) rfl (by kernel_rfl) (by kernel_rfl) (by kernel_rfl) (fun _ _ _ h => h) (Or.inl ⟨by kernel_rfl, ?_⟩) hS0 ?_
  · intro w' hS; go_simp
  refine wpAnyH_take (i := 12) (v := Value.int .i64 (T.size : Nat)) rfl (by kernel_rfl) (by kernel_rfl) (by kernel_rfl) (fun _ _ _ h => h) (Or.inl ⟨by kernel_rfl, ?_⟩) hS0 ?_
  · intro w' hS; go_simp
  refine wpAnyH_take (i := 13) (v := Value.bool true) rfl (by kernel_rfl) (by kernel_rfl) (by kernel_rfl) (fun _ _ _ h => h) (Or.inl ⟨by kernel_rfl, ?_⟩) hS0 ?_
  · intro w' hS; go_simp
  refine wpAnyH_take (i := 14) (v := Value.bool true) rfl (by kernel_rfl) (by kernel_rfl) (by kernel_rfl) (fun _ _ _ h => h) (Or.inl ⟨by kernel_rfl, ?_⟩) hS0 ?_
  · intro w' hS; go_simp
  refine wpAnyH_take (i := 15) (v := Value.bool true) rfl (by kernel_rfl) (by kernel_rfl) (by kernel_rfl) (fun _ _ _ h => h) (Or.inl ⟨by kernel_rfl, ?_⟩) hS0 ?_
  · intro w' hS; go_simp
  refine wpAnyH_take (i := 16) (v := Value.int .i64 0) rfl (by kernel_rfl) (by kernel_rfl) (by kernel_rfl) (fun _ _ _ h => h) (Or.inl ⟨by kernel_rfl, ?_⟩) hS0 ?_
  · intro w' hS; go_simp
  refine wpAnyH_take (i := 17) (v := Value.bool true) rfl (by kernel_rfl) (by kernel_rfl) (by kernel_rfl) (fun _ _ _ h => h) (Or.inl ⟨by kernel_rfl, ?_⟩) hS0 ?_
  · intro w' hS; go_simp
  refine wpAnyH_take (i := 18) (v := Value.bool true) rfl (by kernel_rfl) (by kernel_rfl) (by kernel_rfl) (fun _ _ _ h => h) (Or.inl ⟨by kernel_rfl, ?_⟩) hS0 ?_
  · intro w' hS; go_simp
  refine wpAnyH_take (i := 19) (v := Value.bool true) rfl (by kernel_rfl) (by kernel_rfl) (by kernel_rfl) (fun _ _ _ h => h) (Or.inl ⟨by kernel_rfl, ?_⟩) hS0 ?_
  · intro w' hS; go_simp
  refine wpAnyH_take (i := 20) (v := Value.agg #[.int .i64 k, .int .i64 n, .string sa, .slice ad3 l.len cap3]) rfl (by kernel_rfl) (by kernel_rfl) (by kernel_rfl) (fun _ _ _ h => h) (Or.inl ⟨by kernel_rfl, ?_⟩) hS0 ?_
  · intro w' hS; obtain ⟨s0, s1, s2, s3⟩ := hS.2.2.2; go_simp
  refine wpAnyH_take (i := 21) (v := Value.agg #[.int .i64 k, .int .i64 n, .string sa, .slice ad l.len cap]) rfl (by kernel_rfl) (by kernel_rfl) (by kernel_rfl) (fun _ _ _ h => h) (Or.inl ⟨by kernel_rfl, ?_⟩) hS0 ?_
  · intro w' hS; obtain ⟨s0, s1, s2, s3⟩ := hS.2.2.1; go_simp
  refine wpAnyH_ready (rs := [22]) (by kernel_rfl) (by simp) ?_
  refine AllReadyH.cons rfl (fun K hK => ?_) AllReadyH.nil
  rw [if_pos (by kernel_rfl)]
  go_simp
  refine (back_c k n sa l ad cap w10 HR.out.2.1 HR.out.2.2.1 (HR.out.1.below H10.out)).mono ?_
  rintro _ w11 ⟨hb11, ad4, cap4, rfl, hg11⟩
  have HR11 := Lib.hid (And.intro (HR10.out.to (w' := w11) (A' := fun _ => True) (fun b _ hl => ⟨trivial, hb11.block b hl⟩)) (hg11.to (w' := w11) (A' := fun _ => True) (fun b _ _ => ⟨trivial, rfl⟩)))
  have H11 := Lib.hid (H10.out.trans (hb11.mono H10.out.size))
  refine hK.out _ _ (hS0.below hb11) (fun hS0 => ?_)
  clear hK hb11 hg11
  refine wpAnyH_ready (rs := [23]) (by kernel_rfl) (by simp) ?_
  refine AllReadyH.cons rfl (fun K hK => ?_) AllReadyH.nil
  rw [if_pos (by kernel_rfl)]
  go_simp
  refine (eq_like k n sa l ad3 ad4 cap3 cap4 w11 HC.out.1 HR11.out.1 HR11.out.2).mono ?_
  rintro _ w12 ⟨rfl, hb12⟩
  have H12 := Lib.hid (H11.out.trans (hb12.mono H11.out.size))
  refine hK.out _ _ (hS0.below hb12) (fun hS0 => ?_)
  clear hK hb12
  refine wpAnyH_take (i := 24) (v := Value.bool true) rfl (by kernel_rfl) (by kernel_rfl) (by kernel_rfl) (fun _ _ _ h => h) (Or.inl ⟨by kernel_rfl, ?_⟩) hS0 ?_
  · intro w' hS; go_simp
  refine wpAnyH_take (i := 25) (v := Value.bool true) rfl (by kernel_rfl) (by kernel_rfl) (by kernel_rfl) (fun _ _ _ h => h) (Or.inl ⟨by kernel_rfl, ?_⟩) hS0 ?_
  · intro w' hS; go_simp
  refine wpAnyH_done (by kernel_rfl) ?_ _
  clear hS0
  go_wp2_with fail
  go_ret
  exact ⟨rfl, H12.out⟩

theorem pouchAny_walk (s : ByteArray) (k n : Int) (sa : ByteArray) (l : F) (ad : Option Addr) (cap : Nat) (at' x : Int) (w : World) (hbg : BegunTrue) (h : LibAt w) (hr : RepS w ad l) (hby : l.len * 56 ≤ 140737488355328) (hfit : l.fit) (hn : -9223372036854775808 ≤ n ∧ n ≤ 9223372036854775807) (hwf : l.wf)
    (hx0 : 0 ≤ x) (hx1 : x ≤ 255) :
    Calls Tryd.prog 3 #[.string s, .agg #[.int .i64 k, .int .i64 n, .string sa, .slice ad l.len cap], .int .i64 at', .int .u8 x] w fun e w' => e = .returned (.bool true) ∧ Below w.heap.size w w' := by
  by_cases ho : (putS k n sa l).size = 0 ∨ at' < 0
  · exact pouchAny_out s k n sa l ad cap at' x w hbg h hr hby hfit hn hwf ho
  · exact pouchAny_in s k n sa l ad cap at' x w hbg h hr hby hfit hn hwf hx0 hx1 (fun e => ho (.inl e)) (by omega)

end Go.Proofs.YtgjnllkbfjeihaaDoor
