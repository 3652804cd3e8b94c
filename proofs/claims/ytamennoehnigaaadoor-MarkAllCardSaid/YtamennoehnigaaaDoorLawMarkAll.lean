import Derived.Test.YtamennoehnigaaaDoorMark
namespace Go.Proofs.YtamennoehnigaaaDoor
open Go.RowKit Go.Proofs.Flo Go.Proofs.Cpl Go.Sort

set_option maxRecDepth 100000 in
set_option maxHeartbeats 2000000 in
theorem markAll_walk (a b : ByteArray) (w : World) (hbg : BegunTrue) (h : LibAt w) :
    Calls Tryd.prog 7 #[.string a, .string b] w fun e w' => e = .returned (.bool true) ∧ Below w.heap.size w w' := by
  have HB := Lib.hid (hbg w h)
  clear hbg h
  have C1 := Lib.hid (cut_any a 100)
  have C2 := Lib.hid (cut_any b 100)
  have hA := cutS_size a 100
  have hB := cutS_size b 100
  generalize cutS a 100 = A at *
  generalize cutS b 100 = B at *
  have hAB : (A ++ B).size ≤ maxLen := by rw [append_size]; unfold maxLen; omega
  have hA' : A.size ≤ maxLen := by unfold maxLen; omega
  have hB' : B.size ≤ maxLen := by unfold maxLen; omega
  have v1 := conv_str (A ++ B)
  have v2 := conv_str A
  have v3 := conv_str B
  obtain ⟨G, hG⟩ : ∃ G, gon (0, 1) (A ++ B).data.toList = G := ⟨_, rfl⟩
  obtain ⟨H, hH⟩ : ∃ H, gon (0, 1) A.data.toList = H := ⟨_, rfl⟩
  have hHG : gon H B.data.toList = G := by rw [← hH, ← gon_append, ← append_toList, hG]
  have R := Lib.hid (rmark_str (A ++ B) G hG hAB)
  have hokG : Ok G := by rw [← hG]; exact ok_gon ok_i _
  have hokH : Ok H := by rw [← hH]; exact ok_gon ok_i _
  have e1 := self_ok hokG
  have M1 := Lib.hid (fun b n cap hn => mark_str (A ++ B) b n cap G hG hn hAB)
  have M2 := Lib.hid (fun b n cap hn => mark_str A b n cap H hH hn hA')
  have M3 := Lib.hid (fun b n cap hn => on_str H hokH B b n cap G hHG hn hB')
  clear hG hH hHG
  go_enter Tryd.func7, Tryd.ntmps7
  go_wp2_with fail
  refine HB.out.mono ?_
  rintro _ w0 ⟨rfl, hb0⟩
  go_wp2_with fail
  refine (C1.out _).mono ?_
  rintro _ w' ⟨rfl, rfl⟩
  go_wp2_with fail
  refine (C2.out _).mono ?_
  rintro _ w' ⟨rfl, rfl⟩
  go_wp2_with fail
  refine (M1.out w0.heap.size _ _ (append_size A B) _ (bytesAt_str _ _ _)).mono ?_
  rintro _ w' ⟨rfl, rfl⟩
  have hb1 := Lib.bytesWorld_below w0 5 (A ++ B)
  generalize Lib.bytesWorld w0 5 (A ++ B) = w1 at *
  go_wp2_with fail
  refine (R.out _).mono ?_
  rintro _ w2 ⟨rfl, hb2⟩
  go_wp2_with fail
  refine (z_p G hokG _).mono ?_
  rintro _ w3 ⟨rfl, hb3⟩
  go_wp2_with fail
  refine (M2.out w3.heap.size _ _ rfl _ (bytesAt_str _ _ _)).mono ?_
  rintro _ w' ⟨rfl, rfl⟩
  have hb4 := Lib.bytesWorld_below w3 5 A
  generalize Lib.bytesWorld w3 5 A = w4 at *
  go_wp2_with fail
  refine (M3.out w4.heap.size _ _ rfl _ (bytesAt_str _ _ _)).mono ?_
  rintro _ w' ⟨rfl, rfl⟩
  have hb5 := Lib.bytesWorld_below w4 5 B
  generalize Lib.bytesWorld w4 5 B = w5 at *
  go_wp2_with fail
  refine (M1.out w5.heap.size _ _ (append_size A B) _ (bytesAt_str _ _ _)).mono ?_
  rintro _ w' ⟨rfl, rfl⟩
  have hb6 := Lib.bytesWorld_below w5 5 (A ++ B)
  generalize Lib.bytesWorld w5 5 (A ++ B) = w6 at *
  go_wp2_with fail
  go_ret
  have s0 := hb0.size
  have s1 := hb1.size
  have s2 := hb2.size
  have s3 := hb3.size
  have s4 := hb4.size
  have s5 := hb5.size
  exact ⟨rfl, (((((hb0.trans (hb1.mono (by omega))).trans (hb2.mono (by omega))).trans (hb3.mono (by omega))).trans (hb4.mono (by omega))).trans (hb5.mono (by omega))).trans (hb6.mono (by omega))⟩

end Go.Proofs.YtamennoehnigaaaDoor
