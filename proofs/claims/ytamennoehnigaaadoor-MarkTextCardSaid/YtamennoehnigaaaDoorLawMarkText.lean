import Derived.Test.YtamennoehnigaaaDoorReads
import Derived.Test.YtamennoehnigaaaDoorLawMarkTurn
namespace Go.Proofs.YtamennoehnigaaaDoor
open Go.RowKit Go.Proofs.Flo Go.Proofs.Cpl Go.Sort

/-- What a law that keeps a pair knows of a world that has grown. -/
def St (w W : World) (B : Nat) (p : Int × Int) : Prop := LibAt W ∧ At W B p ∧ Below w.heap.size w W

theorem St.step {w W W' : World} {B : Nat} {p : Int × Int} (h : St w W B p) (hb : Below W.heap.size W W') : St w W' B p :=
  ⟨h.1.below hb, h.2.1.below hb, h.2.2.trans (hb.mono h.2.2.size)⟩

/-- A text out of bytes in memory, said of bytes. -/
theorem conv_back (w : World) (b c n : Nat) (l : List UInt8) (hn : l.length = n) (h : BytesAt w b 0 l) :
    (convert 39 9 (.slice (some ⟨b, 0, none⟩) n c)).run Tryd.prog w = .ok (.string (strN (l.map fun x => (x.toNat : Int)))) w := by
  have h2 := conv_bytes w b 0 c (l.map fun x => (x.toNat : Int)) (by
    intro i v hv
    rw [List.map_map, List.getElem?_map] at hv
    cases hi : l[i]? with
    | none => rw [hi] at hv; cases hv
    | some x =>
      rw [hi] at hv
      obtain ⟨hlt, hx⟩ := List.getElem?_eq_some_iff.1 hi
      have hc := h i hlt
      rw [hx] at hc
      rw [hc]
      exact hv)
  rw [List.length_map, hn] at h2
  exact h2

set_option maxRecDepth 100000 in
set_option maxHeartbeats 4000000 in
theorem markText_neg (a b : Int) (s : ByteArray) (at' x : Int) (w : World) (hbg : BegunTrue) (h : LibAt w) (hat : at' < 0) :
    Calls Tryd.prog 9 #[.int .i64 a, .int .i64 b, .string s, .int .i64 at', .int .u8 x] w fun e w' => e = .returned (.bool true) ∧ Below w.heap.size w w' := by
  have HB := Lib.hid (hbg w h)
  have HL := Lib.hid h
  clear hbg h
  have C1 := Lib.hid (cut_any s 10)
  have hS10 := cutS_size s 10
  generalize cutS s 10 = S at *
  go_enter Tryd.func9, Tryd.ntmps9
  go_wp2_with fail
  refine HB.out.mono ?_
  rintro _ w0 ⟨rfl, hb0⟩
  go_wp2_with fail
  refine (pair_p a b _).mono ?_
  rintro _ w1 ⟨rfl, hb1⟩
  have hp := ok_red (a, b)
  generalize red (a, b) = p at *
  go_wp2_with fail
  have hs1 : Below w.heap.size w w1 := hb0.trans (hb1.mono hb0.size)
  have HS : Hid (St w (w1.alloc (.cells #[.int .i64 p.1, .int .i64 p.2] 24)) w1.heap.size p) := Lib.hid ⟨HL.out.below (hs1.alloc hs1.size _), At.new _ _ _ _, hs1.alloc hs1.size _⟩
  clear hb0 hb1 hs1 HB HL
  generalize w1.alloc (.cells #[.int .i64 p.1, .int .i64 p.2] 24) = W at *
  generalize w1.heap.size = B at *
  have Z := Lib.hid (z_p p hp)
  have TX := Lib.hid (gtext p hp)
  have RT := Lib.hid (rtext p hp)
  have e1 := self_ok hp
  obtain ⟨T, hT⟩ : ∃ T, strN (textL p) = T := ⟨_, rfl⟩
  have hT8 : T.size = 8 := by rw [← hT]; exact text_size p
  have hit : IsText T p := ⟨hp, hT.symm⟩
  rw [hT] at TX RT
  have GR := Lib.hid (gread_yes T p hit)
  have hT8' : (T.size : Int) = 8 := by omega
  clear hT hit hp
  go_wp2_with fail
  refine (Z.out _).mono ?_
  rintro _ y1 ⟨rfl, hc1⟩
  have HS1 := Lib.hid (HS.out.step hc1)
  clear HS hc1
  have HS := HS1
  clear HS1
  go_wp2_with fail
  refine (TX.out _ HS.out.1.1).mono ?_
  rintro _ y2 ⟨rfl, hc2⟩
  have HS2 := Lib.hid (HS.out.step hc2)
  clear HS hc2
  have HS := HS2
  clear HS2
  go_wp2_with fail
  refine (GR.out _ HS.out.1.1 HS.out.1.2.1).mono ?_
  rintro _ y3 ⟨rfl, hc3⟩
  have HS3 := Lib.hid (HS.out.step hc3)
  clear HS hc3
  have HS := HS3
  clear HS3
  go_wp2_with fail
  refine (C1.out _).mono ?_
  rintro _ w' ⟨rfl, rfl⟩
  have hq5 := HS.out.2.1
  obtain ⟨⟨c0, c1⟩, _, _⟩ := hq5
  go_wp2_with fail
  refine (RT.out _).mono ?_
  rintro _ y6 ⟨rfl, hc6⟩
  have HS6 := Lib.hid (HS.out.step hc6)
  clear HS hc6
  have HS := HS6
  clear HS6
  clear c0 c1
  have hq7 := HS.out.2.1
  obtain ⟨⟨c0, c1⟩, _, _⟩ := hq7
  go_wp2_with fail
  refine (Z.out _).mono ?_
  rintro _ y8 ⟨rfl, hc8⟩
  have HS8 := Lib.hid (HS.out.step hc8)
  clear HS hc8
  have HS := HS8
  clear HS8
  clear c0 c1
  go_wp2_with fail
  refine (reads_any _ _ HS.out.1).mono ?_
  rintro _ y9 ⟨rfl, hc9⟩
  have HS9 := Lib.hid (HS.out.step hc9)
  clear HS hc9
  have HS := HS9
  clear HS9
  have hq10 := HS.out.2.1
  obtain ⟨⟨c0, c1⟩, _, _⟩ := hq10
  go_wp2_with fail
  refine (RT.out _).mono ?_
  rintro _ y11 ⟨rfl, hc11⟩
  have HS11 := Lib.hid (HS.out.step hc11)
  clear HS hc11
  have HS := HS11
  clear HS11
  clear c0 c1
  have hq12 := HS.out.2.1
  obtain ⟨⟨c0, c1⟩, _, _⟩ := hq12
  go_wp2_with fail
  refine (Z.out _).mono ?_
  rintro _ y13 ⟨rfl, hc13⟩
  have HS13 := Lib.hid (HS.out.step hc13)
  clear HS hc13
  have HS := HS13
  clear HS13
  clear c0 c1
  go_wp2_with fail
  refine (reads_any _ _ HS.out.1).mono ?_
  rintro _ y14 ⟨rfl, hc14⟩
  have HS14 := Lib.hid (HS.out.step hc14)
  clear HS hc14
  have HS := HS14
  clear HS14
  go_wp2_with fail
  go_ret
  exact ⟨rfl, HS.out.2.2⟩

set_option maxRecDepth 100000 in
set_option maxHeartbeats 4000000 in
theorem markText_pos (a b : Int) (s : ByteArray) (at' x : Int) (w : World) (hbg : BegunTrue) (h : LibAt w) (hat : 0 ≤ at') (hx0 : 0 ≤ x) (hx1 : x ≤ 255) :
    Calls Tryd.prog 9 #[.int .i64 a, .int .i64 b, .string s, .int .i64 at', .int .u8 x] w fun e w' => e = .returned (.bool true) ∧ Below w.heap.size w w' := by
  have HB := Lib.hid (hbg w h)
  have HL := Lib.hid h
  clear hbg h
  have C1 := Lib.hid (cut_any s 10)
  have hS10 := cutS_size s 10
  generalize cutS s 10 = S at *
  obtain ⟨k, hk⟩ : ∃ k : Nat, at' % 8 = (k : Int) := ⟨(at' % 8).toNat, by omega⟩
  have hk8 : k < 8 := by omega
  have n1 : ¬ at' < 0 := by omega
  go_enter Tryd.func9, Tryd.ntmps9
  go_wp2_with fail
  refine HB.out.mono ?_
  rintro _ w0 ⟨rfl, hb0⟩
  go_wp2_with fail
  refine (pair_p a b _).mono ?_
  rintro _ w1 ⟨rfl, hb1⟩
  have hp := ok_red (a, b)
  generalize red (a, b) = p at *
  go_wp2_with fail
  have hs1 : Below w.heap.size w w1 := hb0.trans (hb1.mono hb0.size)
  have HS : Hid (St w (w1.alloc (.cells #[.int .i64 p.1, .int .i64 p.2] 24)) w1.heap.size p) := Lib.hid ⟨HL.out.below (hs1.alloc hs1.size _), At.new _ _ _ _, hs1.alloc hs1.size _⟩
  clear hb0 hb1 hs1 HB HL
  generalize w1.alloc (.cells #[.int .i64 p.1, .int .i64 p.2] 24) = W at *
  generalize w1.heap.size = B at *
  have Z := Lib.hid (z_p p hp)
  have TX := Lib.hid (gtext p hp)
  have RT := Lib.hid (rtext p hp)
  have e1 := self_ok hp
  obtain ⟨T, hT⟩ : ∃ T, strN (textL p) = T := ⟨_, rfl⟩
  have hT8 : T.size = 8 := by rw [← hT]; exact text_size p
  have hit : IsText T p := ⟨hp, hT.symm⟩
  rw [hT] at TX RT
  have GR := Lib.hid (gread_yes T p hit)
  have hT8' : (T.size : Int) = 8 := by omega
  clear hT hit hp
  have hTk : k < T.data.toList.length := by rw [str_len]; omega
  obtain ⟨c, hc⟩ : ∃ c, T.data.toList[k]'hTk = c := ⟨_, rfl⟩
  obtain ⟨hxor, _⟩ := xor_byte c x hx0 hx1
  obtain ⟨c', hc'⟩ : ∃ c', c ^^^ UInt8.ofNat x.toNat = c' := ⟨_, rfl⟩
  rw [hc'] at hxor
  have v1 := conv_str T
  rw [hT8] at v1
  have i0 : (0 : Int) ≤ (k : Int) ∧ (k : Int) < 8 := by omega
  have HTK := Lib.hid hTk
  have HC := Lib.hid hc
  have hST : ((T.size : Int) + (S.size : Int)) ≤ 18 := by omega
  have hK8 := Lib.hid hT8
  clear hc hc' hT8
  go_wp2_with fail
  refine (Z.out _).mono ?_
  rintro _ y1 ⟨rfl, hc1⟩
  have HS1 := Lib.hid (HS.out.step hc1)
  clear HS hc1
  have HS := HS1
  clear HS1
  go_wp2_with fail
  refine (TX.out _ HS.out.1.1).mono ?_
  rintro _ y2 ⟨rfl, hc2⟩
  have HS2 := Lib.hid (HS.out.step hc2)
  clear HS hc2
  have HS := HS2
  clear HS2
  go_wp2_with fail
  refine (GR.out _ HS.out.1.1 HS.out.1.2.1).mono ?_
  rintro _ y3 ⟨rfl, hc3⟩
  have HS3 := Lib.hid (HS.out.step hc3)
  clear HS hc3
  have HS := HS3
  clear HS3
  go_wp2_with fail
  refine (C1.out _).mono ?_
  rintro _ w' ⟨rfl, rfl⟩
  have hq5 := HS.out.2.1
  obtain ⟨⟨c0, c1⟩, _, _⟩ := hq5
  go_wp2_with fail
  refine (RT.out _).mono ?_
  rintro _ y6 ⟨rfl, hc6⟩
  have HS6 := Lib.hid (HS.out.step hc6)
  clear HS hc6
  have HS := HS6
  clear HS6
  clear c0 c1
  have hq7 := HS.out.2.1
  obtain ⟨⟨c0, c1⟩, _, _⟩ := hq7
  go_wp2_with fail
  refine (Z.out _).mono ?_
  rintro _ y8 ⟨rfl, hc8⟩
  have HS8 := Lib.hid (HS.out.step hc8)
  clear HS hc8
  have HS := HS8
  clear HS8
  clear c0 c1
  go_wp2_with fail
  refine (reads_any _ _ HS.out.1).mono ?_
  rintro _ y9 ⟨rfl, hc9⟩
  have HS9 := Lib.hid (HS.out.step hc9)
  clear HS hc9
  have HS := HS9
  clear HS9
  have hbw := HS.out.step (Lib.bytesWorld_below y9 5 T)
  have hba := bytesAt_str y9 5 T
  have d0 : (Lib.bytesWorld y9 5 T).cell? ⟨y9.heap.size, k, none⟩ = some (.int .u8 (c.toNat : Int)) := by
    have h := hba k HTK.out
    rw [Nat.zero_add, HC.out] at h
    exact h
  have d1 := bytesWorld_free y9 5 T k (by rw [hK8.out]; omega)
  have hcv := conv_back ((Lib.bytesWorld y9 5 T).setCell ⟨y9.heap.size, k, none⟩ (.int .u8 (c'.toNat : Int))) y9.heap.size (grownCap y9 8 0 5) 8 (T.data.toList.set k c') (by rw [List.length_set]; exact hK8.out) (hba.set k HTK.out c')
  have HS9 : Hid (St w ((Lib.bytesWorld y9 5 T).setCell ⟨y9.heap.size, k, none⟩ (.int .u8 (c'.toNat : Int))) B p) := Lib.hid (HS.out.step ((Lib.bytesWorld_below y9 5 T).setCell (Nat.le_refl _) _))
  clear HS hbw hba
  have HS := HS9
  clear HS9
  go_wp2_with fail
  refine (reads_any _ _ HS.out.1).mono ?_
  rintro _ y10 ⟨rfl, hc10⟩
  have HS10 := Lib.hid (HS.out.step hc10)
  clear HS hc10
  have HS := HS10
  clear HS10
  go_wp2_with fail
  refine (reads_any _ _ HS.out.1).mono ?_
  rintro _ y11 ⟨rfl, hc11⟩
  have HS11 := Lib.hid (HS.out.step hc11)
  clear HS hc11
  have HS := HS11
  clear HS11
  go_wp2_with fail
  refine (reads_any _ _ HS.out.1).mono ?_
  rintro _ y12 ⟨rfl, hc12⟩
  have HS12 := Lib.hid (HS.out.step hc12)
  clear HS hc12
  have HS := HS12
  clear HS12
  go_wp2_with fail
  go_ret
  exact ⟨rfl, HS.out.2.2⟩

theorem markText_walk (a b : Int) (s : ByteArray) (at' x : Int) (w : World) (hbg : BegunTrue) (h : LibAt w) (hx0 : 0 ≤ x) (hx1 : x ≤ 255) :
    Calls Tryd.prog 9 #[.int .i64 a, .int .i64 b, .string s, .int .i64 at', .int .u8 x] w fun e w' => e = .returned (.bool true) ∧ Below w.heap.size w w' := by
  by_cases hat : at' < 0
  · exact markText_neg a b s at' x w hbg h hat
  · exact markText_pos a b s at' x w hbg h (by omega) hx0 hx1

end Go.Proofs.YtamennoehnigaaaDoor
