import Derived.Test.YtamennoehnigaaaDoorMark
import Derived.Deep.RegionWith
import Derived.BigRegion
namespace Go.Proofs.YtamennoehnigaaaDoor
open Go.RowKit Go.Proofs.Flo Go.Proofs.Cpl Go.Sort

set_option maxRecDepth 100000 in
set_option maxHeartbeats 4000000 in
theorem markSwap_in (s : ByteArray) (at' : Int) (w : World) (hbg : BegunTrue) (h : LibAt w) (ha : 0 ≤ at') (hs : 2 ≤ (cutS s 100).size) :
    Calls Tryd.prog 16 #[.string s, .int .i64 at'] w fun e w' => e = .returned (.bool true) ∧ Below w.heap.size w w' := by
  have HB := Lib.hid (hbg w h)
  clear hbg h
  have C1 := Lib.hid (cut_any s 100)
  have hS := cutS_size s 100
  generalize cutS s 100 = S at *
  have hS' : S.size ≤ maxLen := by unfold maxLen; omega
  have v1 := conv_str S
  obtain ⟨k, hk⟩ : ∃ k : Nat, at' % ((S.size : Int) - 1) = (k : Int) := ⟨(at' % ((S.size : Int) - 1)).toNat, by have := Int.emod_nonneg at' (show (S.size : Int) - 1 ≠ 0 by omega); omega⟩
  have hkl : k + 1 < S.size := by have := Int.emod_lt_of_pos at' (show (0 : Int) < (S.size : Int) - 1 by omega); omega
  obtain ⟨c, hc⟩ : ∃ c, S.data.toList[k]'(show k < S.data.toList.length from by rw [str_len]; omega) = c := ⟨_, rfl⟩
  obtain ⟨d, hd⟩ : ∃ d, S.data.toList[k + 1]'hkl = d := ⟨_, rfl⟩
  have hSc : S[k]'(by omega) = c := by rw [← hc]; rfl
  have hSd : S[k + 1]'hkl = d := by rw [← hd]; rfl
  obtain ⟨G, hG⟩ : ∃ G, gon (0, 1) S.data.toList = G := ⟨_, rfl⟩
  obtain ⟨H, hH⟩ : ∃ H, gon (0, 1) ((S.data.toList.set k d).set (k + 1) c) = H := ⟨_, rfl⟩
  have hHG : H = G ↔ c = d := by
    have := mark_swapped S.data.toList k hkl
    rw [hc, hd, hH, hG] at this
    exact this
  have hokG : Ok G := by rw [← hG]; exact ok_gon ok_i _
  have hokH : Ok H := by rw [← hH]; exact ok_gon ok_i _
  have M1 := Lib.hid (fun b n cap hn => mark_str S b n cap G hG hn hS')
  have M2 : Hid (∀ (b cap : Nat) (w : World), BytesAt w b 0 ((S.data.toList.set k d).set (k + 1) c) → Calls Tryd.prog 33 #[.slice (some ⟨b, 0, none⟩) S.size cap] w fun e w' => e = .returned (.complex .f64 (fk 0 H.1) (fk 0 H.2)) ∧ w = w') := Lib.hid (by
    intro b cap w hb
    have h := mark_gc b 0 cap ((S.data.toList.set k d).set (k + 1) c) (by rw [List.length_set, List.length_set]; exact hS') w hb
    rw [List.length_set, List.length_set, hH] at h
    exact h)
  have HC : Hid (∀ w, (Lib.bytesWorld w 5 S).cell? ⟨w.heap.size, k, none⟩ = some (.int .u8 (c.toNat : Int))) := Lib.hid (by
    intro w
    have := bytesAt_str w 5 S k (show k < S.data.toList.length from by rw [str_len]; omega)
    rw [Nat.zero_add, hc] at this
    exact this)
  have HD : Hid (∀ w, (Lib.bytesWorld w 5 S).cell? ⟨w.heap.size, k + 1, none⟩ = some (.int .u8 (d.toNat : Int))) := Lib.hid (by
    intro w
    have := bytesAt_str w 5 S (k + 1) hkl
    rw [Nat.zero_add, hd] at this
    exact this)
  have n1 : ¬ at' < 0 := by omega
  have n2 : ¬ (S.size : Int) < 2 := by omega
  have i0 : (0 : Int) ≤ (k : Int) ∧ (k : Int) < (S.size : Int) := by omega
  have i1 : (0 : Int) ≤ (k : Int) + 1 ∧ (k : Int) + 1 < (S.size : Int) := by omega
  clear hG hH hc hd
  have HK := Lib.hid hkl
  go_enter Tryd.func16, Tryd.ntmps16
  go_wp2_with fail
  refine HB.out.mono ?_
  rintro _ w0 ⟨rfl, hb0⟩
  go_wp2_with fail
  refine (C1.out _).mono ?_
  rintro _ w' ⟨rfl, rfl⟩
  go_wp2_with fail
  have d0 := HC.out w0
  have d1 := HD.out w0
  have d2 := bytesWorld_free w0 5 S k (by have := HK.out; omega)
  have d3 := bytesWorld_free w0 5 S (k + 1) HK.out
  have hba := bytesAt_str w0 5 S
  have hb1 := Lib.bytesWorld_below w0 5 S
  have hz1 : w0.heap.size < (Lib.bytesWorld w0 5 S).heap.size := by rw [Lib.bytesWorld_size]; omega
  have hB1 := Lib.hid (hb0.trans (hb1.mono hb0.size))
  have hB0 := Lib.hid hb0.size
  have HBA := Lib.hid hba
  clear hba hb0 hb1
  generalize grownCap w0 S.size 0 5 = cap at *
  generalize Lib.bytesWorld w0 5 S = w1 at *
  generalize w0.heap.size = b at *
  go_region
  go_wp2_with fail
  have hW : BytesAt ((w1.setCell ⟨b, k, none⟩ (.int .u8 (d.toNat : Int))).setCell ⟨b, k + 1, none⟩ (.int .u8 (c.toNat : Int))).drew b 0 ((S.data.toList.set k d).set (k + 1) c) :=
    (HBA.out.set k (show k < S.data.toList.length from by rw [str_len]; have := HK.out; omega) d).set (k + 1) (by rw [List.length_set]; exact HK.out) c
  have hWB : Below w.heap.size w ((w1.setCell ⟨b, k, none⟩ (.int .u8 (d.toNat : Int))).setCell ⟨b, k + 1, none⟩ (.int .u8 (c.toNat : Int))).drew := ((hB1.out.setCell hB0.out _).setCell hB0.out _).drew
  have hWs : b < ((w1.setCell ⟨b, k, none⟩ (.int .u8 (d.toNat : Int))).setCell ⟨b, k + 1, none⟩ (.int .u8 (c.toNat : Int))).drew.heap.size := by simpa using hz1
  generalize ((w1.setCell ⟨b, k, none⟩ (.int .u8 (d.toNat : Int))).setCell ⟨b, k + 1, none⟩ (.int .u8 (c.toNat : Int))).drew = W at *
  clear d0 d1 d2 d3 hz1
  have HW1 : Hid (BytesAt W.drew b 0 ((S.data.toList.set k d).set (k + 1) c)) := Lib.hid hW
  have hbw : Below W.drew.heap.size W.drew (Lib.bytesWorld W.drew 5 S) := Lib.bytesWorld_below W.drew 5 S
  have HW2 : Hid (BytesAt (Lib.bytesWorld W.drew 5 S) b 0 ((S.data.toList.set k d).set (k + 1) c)) := Lib.hid (BytesAt.below (w := W.drew) hW hbw hWs)
  have HBW : Hid (Below w.heap.size w (Lib.bytesWorld W.drew 5 S)) := Lib.hid (hWB.drew.trans (hbw.mono hWB.size))
  clear hW hWB hWs hbw
  have N1 := Lib.hid (M2.out b cap _ HW1.out)
  have N2 := Lib.hid (M2.out b cap _ HW2.out)
  have N3 := Lib.hid (fun cap2 => M1.out W.heap.size S.size cap2 rfl _ (bytesAt_str W.drew 5 S))
  clear HW1 HW2 M1 M2
  have q1 : IntKind.i64.wrap ((k : Int) + 1) = (k : Int) + 1 := IntWalk.i64_in _ (by omega)
  by_cases hcd : c = d
  · obtain rfl := hHG.2 hcd
    subst hcd
    have e1 := self_ok hokG
    clear hHG
    refine wp_region_any (by kernel_rfl) ?_
    change wpAny _ _ _ _ _ _ _ (World.drew _)
    refine wpAny_take (i := 0) (v := (Value.slice (some ⟨b, 0, none⟩) S.size cap)) rfl (by kernel_rfl) (by kernel_rfl) (by kernel_rfl) (fun _ _ _ h => h) (Or.inl ⟨by rfl, ?_⟩) ?_
    · intro w; go_simp
    refine wpAny_take (i := 2) (v := Value.string S) rfl (by kernel_rfl) (by kernel_rfl) (by kernel_rfl) (fun _ _ _ h => h) (Or.inl ⟨by rfl, ?_⟩) ?_
    · intro w; go_simp
    refine wpAny_take (i := 6) (v := Value.string S) rfl (by kernel_rfl) (by kernel_rfl) (by kernel_rfl) (fun _ _ _ h => h) (Or.inl ⟨by rfl, ?_⟩) ?_
    · intro w; go_simp
    refine wpAny_take (i := 7) (v := Value.int .i64 (k : Int)) rfl (by kernel_rfl) (by kernel_rfl) (by kernel_rfl) (fun _ _ _ h => h) (Or.inl ⟨by rfl, ?_⟩) ?_
    · intro w; go_simp
    refine wpAny_take (i := 9) (v := Value.string S) rfl (by kernel_rfl) (by kernel_rfl) (by kernel_rfl) (fun _ _ _ h => h) (Or.inl ⟨by rfl, ?_⟩) ?_
    · intro w; go_simp
    refine wpAny_take (i := 10) (v := Value.int .i64 (k : Int)) rfl (by kernel_rfl) (by kernel_rfl) (by kernel_rfl) (fun _ _ _ h => h) (Or.inl ⟨by rfl, ?_⟩) ?_
    · intro w; go_simp
    refine wpAny_take (i := 11) (v := Value.int .i64 ((k : Int) + 1)) rfl (by kernel_rfl) (by kernel_rfl) (by kernel_rfl) (fun _ _ _ h => h) (Or.inl ⟨by rfl, ?_⟩) ?_
    · intro w; go_simp
    refine wpAny_take (i := 8) (v := Value.int .u8 (c.toNat : Int)) rfl (by kernel_rfl) (by kernel_rfl) (by kernel_rfl) (fun _ _ _ h => h) (Or.inl ⟨by rfl, ?_⟩) ?_
    · intro w; go_simp
    refine wpAny_take (i := 12) (v := Value.int .u8 (c.toNat : Int)) rfl (by kernel_rfl) (by kernel_rfl) (by kernel_rfl) (fun _ _ _ h => h) (Or.inl ⟨by rfl, ?_⟩) ?_
    · intro w; go_simp
    refine wpAny_take (i := 13) (v := Value.bool true) rfl (by kernel_rfl) (by kernel_rfl) (by kernel_rfl) (fun _ _ _ h => h) (Or.inl ⟨by rfl, ?_⟩) ?_
    · intro w; go_simp
    refine wpAny_ready (rs := [1, 3]) (by kernel_rfl) (by simp) ?_
    refine AllReady.cons rfl (fun K hK => ?_) (AllReady.cons rfl (fun K hK => ?_) AllReady.nil)
    · go_simp
      go_wp2_with (go_at_call 33; (with_reducible refine N1.out.mono ?_); rintro _ w' ⟨rfl, rfl⟩)
      try (refine hK _ _ ?_; clear hK K)
      refine wpAny_ready (rs := [3]) (by kernel_rfl) (by simp) ?_
      refine AllReady.cons rfl (fun K hK => ?_) AllReady.nil
      go_simp
      refine hK _ _ ?_
      clear hK K
      refine wpAny_ready (rs := [4]) (by kernel_rfl) (by simp) ?_
      refine AllReady.cons rfl (fun K hK => ?_) AllReady.nil
      go_simp
      go_wp2_with (go_at_call 33; (with_reducible refine (N3.out _).mono ?_); rintro _ w' ⟨rfl, rfl⟩)
      try (refine hK _ _ ?_; clear hK K)
      refine wpAny_take (i := 5) (v := Value.bool true) rfl (by kernel_rfl) (by kernel_rfl) (by kernel_rfl) (fun _ _ _ h => h) (Or.inl ⟨by rfl, ?_⟩) ?_
      · intro w; go_simp
      refine wpAny_take (i := 14) (v := Value.bool true) rfl (by kernel_rfl) (by kernel_rfl) (by kernel_rfl) (fun _ _ _ h => h) (Or.inl ⟨by rfl, ?_⟩) ?_
      · intro w; go_simp
      refine wpAny_take (i := 15) (v := Value.bool true) rfl (by kernel_rfl) (by kernel_rfl) (by kernel_rfl) (fun _ _ _ h => h) (Or.inl ⟨by rfl, ?_⟩) ?_
      · intro w; go_simp
      refine wpAny_done (by kernel_rfl) ?_ _
      go_wp2_with fail
      go_ret
      exact ⟨rfl, HBW.out⟩
    · go_simp
      refine hK _ _ ?_
      clear hK K
      refine wpAny_ready (rs := [1]) (by kernel_rfl) (by simp) ?_
      refine AllReady.cons rfl (fun K hK => ?_) AllReady.nil
      go_simp
      go_wp2_with (go_at_call 33; (with_reducible refine N2.out.mono ?_); rintro _ w' ⟨rfl, rfl⟩)
      try (refine hK _ _ ?_; clear hK K)
      refine wpAny_ready (rs := [4]) (by kernel_rfl) (by simp) ?_
      refine AllReady.cons rfl (fun K hK => ?_) AllReady.nil
      go_simp
      go_wp2_with (go_at_call 33; (with_reducible refine (N3.out _).mono ?_); rintro _ w' ⟨rfl, rfl⟩)
      try (refine hK _ _ ?_; clear hK K)
      refine wpAny_take (i := 5) (v := Value.bool true) rfl (by kernel_rfl) (by kernel_rfl) (by kernel_rfl) (fun _ _ _ h => h) (Or.inl ⟨by rfl, ?_⟩) ?_
      · intro w; go_simp
      refine wpAny_take (i := 14) (v := Value.bool true) rfl (by kernel_rfl) (by kernel_rfl) (by kernel_rfl) (fun _ _ _ h => h) (Or.inl ⟨by rfl, ?_⟩) ?_
      · intro w; go_simp
      refine wpAny_take (i := 15) (v := Value.bool true) rfl (by kernel_rfl) (by kernel_rfl) (by kernel_rfl) (fun _ _ _ h => h) (Or.inl ⟨by rfl, ?_⟩) ?_
      · intro w; go_simp
      refine wpAny_done (by kernel_rfl) ?_ _
      go_wp2_with fail
      go_ret
      exact ⟨rfl, HBW.out⟩
  · have hne : ¬ H = G := fun e => hcd (hHG.1 e)
    have e1 := eqF_ok hokH hokG
    rw [decide_eq_false hne] at e1
    unfold eqF at e1
    have t1 : ((c.toNat : Int) == (d.toNat : Int)) = false := by
      rw [beq_eq_false_iff_ne]
      intro g
      exact hcd (UInt8.toNat_inj.1 (by omega))
    clear hHG hne hcd
    refine wp_region_any (by kernel_rfl) ?_
    change wpAny _ _ _ _ _ _ _ (World.drew _)
    refine wpAny_take (i := 0) (v := (Value.slice (some ⟨b, 0, none⟩) S.size cap)) rfl (by kernel_rfl) (by kernel_rfl) (by kernel_rfl) (fun _ _ _ h => h) (Or.inl ⟨by rfl, ?_⟩) ?_
    · intro w; go_simp
    refine wpAny_take (i := 2) (v := Value.string S) rfl (by kernel_rfl) (by kernel_rfl) (by kernel_rfl) (fun _ _ _ h => h) (Or.inl ⟨by rfl, ?_⟩) ?_
    · intro w; go_simp
    refine wpAny_take (i := 6) (v := Value.string S) rfl (by kernel_rfl) (by kernel_rfl) (by kernel_rfl) (fun _ _ _ h => h) (Or.inl ⟨by rfl, ?_⟩) ?_
    · intro w; go_simp
    refine wpAny_take (i := 7) (v := Value.int .i64 (k : Int)) rfl (by kernel_rfl) (by kernel_rfl) (by kernel_rfl) (fun _ _ _ h => h) (Or.inl ⟨by rfl, ?_⟩) ?_
    · intro w; go_simp
    refine wpAny_take (i := 9) (v := Value.string S) rfl (by kernel_rfl) (by kernel_rfl) (by kernel_rfl) (fun _ _ _ h => h) (Or.inl ⟨by rfl, ?_⟩) ?_
    · intro w; go_simp
    refine wpAny_take (i := 10) (v := Value.int .i64 (k : Int)) rfl (by kernel_rfl) (by kernel_rfl) (by kernel_rfl) (fun _ _ _ h => h) (Or.inl ⟨by rfl, ?_⟩) ?_
    · intro w; go_simp
    refine wpAny_take (i := 11) (v := Value.int .i64 ((k : Int) + 1)) rfl (by kernel_rfl) (by kernel_rfl) (by kernel_rfl) (fun _ _ _ h => h) (Or.inl ⟨by rfl, ?_⟩) ?_
    · intro w; go_simp
    refine wpAny_take (i := 8) (v := Value.int .u8 (c.toNat : Int)) rfl (by kernel_rfl) (by kernel_rfl) (by kernel_rfl) (fun _ _ _ h => h) (Or.inl ⟨by rfl, ?_⟩) ?_
    · intro w; go_simp
    refine wpAny_take (i := 12) (v := Value.int .u8 (d.toNat : Int)) rfl (by kernel_rfl) (by kernel_rfl) (by kernel_rfl) (fun _ _ _ h => h) (Or.inl ⟨by rfl, ?_⟩) ?_
    · intro w; go_simp
    refine wpAny_take (i := 13) (v := Value.bool false) rfl (by kernel_rfl) (by kernel_rfl) (by kernel_rfl) (fun _ _ _ h => h) (Or.inl ⟨by rfl, ?_⟩) ?_
    · intro w; go_simp
    refine wpAny_ready (rs := [1, 3]) (by kernel_rfl) (by simp) ?_
    refine AllReady.cons rfl (fun K hK => ?_) (AllReady.cons rfl (fun K hK => ?_) AllReady.nil)
    · go_simp
      go_wp2_with (go_at_call 33; (with_reducible refine N1.out.mono ?_); rintro _ w' ⟨rfl, rfl⟩)
      try (refine hK _ _ ?_; clear hK K)
      refine wpAny_ready (rs := [3]) (by kernel_rfl) (by simp) ?_
      refine AllReady.cons rfl (fun K hK => ?_) AllReady.nil
      go_simp
      refine hK _ _ ?_
      clear hK K
      refine wpAny_ready (rs := [4]) (by kernel_rfl) (by simp) ?_
      refine AllReady.cons rfl (fun K hK => ?_) AllReady.nil
      go_simp
      go_wp2_with (go_at_call 33; (with_reducible refine (N3.out _).mono ?_); rintro _ w' ⟨rfl, rfl⟩)
      try (refine hK _ _ ?_; clear hK K)
      refine wpAny_take (i := 5) (v := Value.bool false) rfl (by kernel_rfl) (by kernel_rfl) (by kernel_rfl) (fun _ _ _ h => h) (Or.inl ⟨by rfl, ?_⟩) ?_
      · intro w; go_simp
      refine wpAny_take (i := 14) (v := Value.bool true) rfl (by kernel_rfl) (by kernel_rfl) (by kernel_rfl) (fun _ _ _ h => h) (Or.inl ⟨by rfl, ?_⟩) ?_
      · intro w; go_simp
      refine wpAny_take (i := 15) (v := Value.bool true) rfl (by kernel_rfl) (by kernel_rfl) (by kernel_rfl) (fun _ _ _ h => h) (Or.inl ⟨by rfl, ?_⟩) ?_
      · intro w; go_simp
      refine wpAny_done (by kernel_rfl) ?_ _
      go_wp2_with fail
      go_ret
      exact ⟨rfl, HBW.out⟩
    · go_simp
      refine hK _ _ ?_
      clear hK K
      refine wpAny_ready (rs := [1]) (by kernel_rfl) (by simp) ?_
      refine AllReady.cons rfl (fun K hK => ?_) AllReady.nil
      go_simp
      go_wp2_with (go_at_call 33; (with_reducible refine N2.out.mono ?_); rintro _ w' ⟨rfl, rfl⟩)
      try (refine hK _ _ ?_; clear hK K)
      refine wpAny_ready (rs := [4]) (by kernel_rfl) (by simp) ?_
      refine AllReady.cons rfl (fun K hK => ?_) AllReady.nil
      go_simp
      go_wp2_with (go_at_call 33; (with_reducible refine (N3.out _).mono ?_); rintro _ w' ⟨rfl, rfl⟩)
      try (refine hK _ _ ?_; clear hK K)
      refine wpAny_take (i := 5) (v := Value.bool false) rfl (by kernel_rfl) (by kernel_rfl) (by kernel_rfl) (fun _ _ _ h => h) (Or.inl ⟨by rfl, ?_⟩) ?_
      · intro w; go_simp
      refine wpAny_take (i := 14) (v := Value.bool true) rfl (by kernel_rfl) (by kernel_rfl) (by kernel_rfl) (fun _ _ _ h => h) (Or.inl ⟨by rfl, ?_⟩) ?_
      · intro w; go_simp
      refine wpAny_take (i := 15) (v := Value.bool true) rfl (by kernel_rfl) (by kernel_rfl) (by kernel_rfl) (fun _ _ _ h => h) (Or.inl ⟨by rfl, ?_⟩) ?_
      · intro w; go_simp
      refine wpAny_done (by kernel_rfl) ?_ _
      go_wp2_with fail
      go_ret
      exact ⟨rfl, HBW.out⟩

set_option maxRecDepth 100000 in
set_option maxHeartbeats 1000000 in
theorem markSwap_out (s : ByteArray) (at' : Int) (w : World) (hbg : BegunTrue) (h : LibAt w) (ho : at' < 0 ∨ (cutS s 100).size < 2) :
    Calls Tryd.prog 16 #[.string s, .int .i64 at'] w fun e w' => e = .returned (.bool true) ∧ Below w.heap.size w w' := by
  have HB := Lib.hid (hbg w h)
  clear hbg h
  have C1 := Lib.hid (cut_any s 100)
  generalize cutS s 100 = S at *
  by_cases h0 : S.size < 2
  · have n2 : (S.size : Int) < 2 := by omega
    clear ho h0
    go_enter Tryd.func16, Tryd.ntmps16
    go_wp2_with fail
    refine HB.out.mono ?_
    rintro _ w0 ⟨rfl, hb0⟩
    go_wp2_with fail
    refine (C1.out _).mono ?_
    rintro _ w' ⟨rfl, rfl⟩
    go_wp2_with fail
    go_ret
    exact ⟨rfl, hb0⟩
  · have n1 : at' < 0 := by omega
    have n2 : ¬ (S.size : Int) < 2 := by omega
    clear ho h0
    go_enter Tryd.func16, Tryd.ntmps16
    go_wp2_with fail
    refine HB.out.mono ?_
    rintro _ w0 ⟨rfl, hb0⟩
    go_wp2_with fail
    refine (C1.out _).mono ?_
    rintro _ w' ⟨rfl, rfl⟩
    go_wp2_with fail
    go_ret
    exact ⟨rfl, hb0⟩

theorem markSwap_walk (s : ByteArray) (at' : Int) (w : World) (hbg : BegunTrue) (h : LibAt w) :
    Calls Tryd.prog 16 #[.string s, .int .i64 at'] w fun e w' => e = .returned (.bool true) ∧ Below w.heap.size w w' := by
  by_cases ho : at' < 0 ∨ (cutS s 100).size < 2
  · exact markSwap_out s at' w hbg h ho
  · exact markSwap_in s at' w hbg h (by omega) (by omega)

end Go.Proofs.YtamennoehnigaaaDoor
