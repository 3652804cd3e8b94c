import Derived.Test.YtamennoehnigaaaDoorMark
import Derived.Deep.RegionWith
import Derived.Laws.MakeOwn
namespace Go.Proofs.YtamennoehnigaaaDoor
open Go.RowKit Go.Proofs.Flo Go.Proofs.Cpl Go.Sort

theorem infoByte : (Tryd.prog.info? 5).map (fun i => (i.zero, i.size, i.bytes)) = some (some (.int .u8 0), 1, 1) := by kernel_rfl

/-- 'make([]byte, n)'. -/
theorem make_any (n : Nat) (hn : n ≤ 1000) (w : World) : (Instr.makeSlice 39 (.int .i64 (n : Int)) (.int .i64 (n : Int))).run Tryd.prog w = .ok (.slice (some ⟨w.heap.size, 0, none⟩) n n) (w.alloc (.cells (madeCells #[.int .u8 0] n) 5)) := by
  obtain ⟨i0, hi, hz0, hz1, hz2⟩ := info_parts infoByte
  have h := run_make (P := Tryd.prog) w 39 5 i0 (.int .u8 0) Tryd.underlying39 hi hz0 .i64 .i64 n n (by omega) (by omega) (by rw [hz2]; omega) (by omega)
  rw [hz1, Nat.mul_one, Int.toNat_natCast] at h
  exact h

theorem zeros_at (w : World) (n : Nat) (e : TypeId) : BytesAt (w.alloc (.cells (madeCells #[.int .u8 0] n) e)) w.heap.size 0 (List.replicate n 0) := by
  intro i hi
  rw [List.length_replicate] at hi
  rw [Nat.zero_add, World.cell?_alloc_at _ _ _ _ rfl]
  unfold madeCells
  rw [Array.getElem?_map, Array.getElem?_range]
  simp [hi, Nat.mod_one]

theorem BytesAt.alloc {w : World} {b : Nat} {l : List UInt8} (h : BytesAt w b 0 l) (hs : b < w.heap.size) (o : Obj) : BytesAt (w.alloc o) b 0 l :=
  h.below ((Below.refl _ _).alloc (Nat.le_refl _) _) hs

theorem mark_zeros (n : Nat) (hn : n ≤ 1000) (Z : Int × Int) (hZ : gon (0, 1) (List.replicate n 0) = Z) (b cap : Nat) (w : World) (h : BytesAt w b 0 (List.replicate n 0)) :
    Calls Tryd.prog 33 #[.slice (some ⟨b, 0, none⟩) n cap] w fun e w' => e = .returned (gc Z) ∧ w = w' := by
  have g := mark_gc b 0 cap (List.replicate n 0) (by rw [List.length_replicate]; unfold maxLen; omega) w h
  rw [List.length_replicate, hZ] at g
  exact g

/-- What the loop keeps. -/
def PartsRel (len : Nat) (w : World) (t m i : Value) (wr : World) : Prop :=
  ∃ (k : Nat) (T : ByteArray), k ≤ 8 ∧ k ≤ len ∧ i = .int .i64 k ∧ t = .string T ∧ T.size ≤ 30 * k ∧ m = gc (gon (0, 1) T.data.toList) ∧ Below w.heap.size w wr

set_option maxRecDepth 100000 in
set_option maxHeartbeats 4000000 in
theorem markParts_neg (v : Value) (len : Nat) (cs : Nat → ByteArray) (b off cap : Nat) (ad : Option Addr) (hv : v = .slice ad len cap) (had : 0 < len → ad = some ⟨b, off, none⟩) (n : Int) (hn : n < 0) (w : World) (hbg : BegunTrue) (h : LibAt w)
    (hl : len ≤ 9223372036854775807) (hb : 0 < len → b < w.heap.size) (hc : ∀ i, i < len → w.cell? ⟨b, off + i, none⟩ = some (.string (cs i))) :
    Calls Tryd.prog 15 #[v, .int .i64 n] w fun e w' => e = .returned (.bool true) ∧ Below w.heap.size w w' := by
  subst hv
  have HB := Lib.hid (hbg w h)
  clear hbg h
  have HC := Lib.hid hc
  have HBL := Lib.hid hb
  have HAD := Lib.hid had
  clear hc hb had
  go_enter Tryd.func15, Tryd.ntmps15
  go_wp2_with fail
  refine HB.out.mono ?_
  rintro _ w0 ⟨rfl, hb0⟩
  have HB0 := Lib.hid hb0
  clear hb0
  go_wp2_with fail
  go_loopw [6, 7, 8] (fun t m i wr => PartsRel len w t m i wr) (fun _ _ i _ => 8 - (intOf i).toNat)
  case atStart =>
    refine ⟨0, ⟨#[]⟩, by omega, by omega, rfl, rfl, by simp [ByteArray.size], ?_, HB0.out⟩
    show _ = gc (0, 1)
    unfold gc
    rw [fk_zero, fk_one]
  case round =>
    obtain ⟨k, T, hk8, hkl, rfl, rfl, hT, rfl, hB⟩ := hrel
    by_cases hin : k < len ∧ k < 8
    · obtain ⟨h1, h2⟩ := hin
      obtain rfl := HAD.out (by omega)
      have hcell : wr.cell? ⟨b, off + k, none⟩ = some (.string (cs k)) := by rw [hB.cell (HBL.out (by omega))]; exact HC.out k h1
      have C1 := Lib.hid (cut_any (cs k) 30)
      have hS := cutS_size (cs k) 30
      generalize cutS (cs k) 30 = S at *
      have v1 := conv_str S
      obtain ⟨G, hG⟩ : ∃ G, gon (0, 1) T.data.toList = G := ⟨_, rfl⟩
      obtain ⟨H, hH⟩ : ∃ H, gon (0, 1) (T ++ S).data.toList = H := ⟨_, rfl⟩
      have hGH : gon G S.data.toList = H := by rw [← hG, ← hH, append_toList, gon_append]
      have hokG : Ok G := by rw [← hG]; exact ok_gon ok_i _
      have O1 := Lib.hid (fun cap2 => on_str G hokG S wr.heap.size S.size cap2 H hGH rfl (by unfold maxLen; omega) _ (bytesAt_str wr 5 S))
      have HH := Lib.hid hH
      have j1 : (k : Int) < (len : Int) := by omega
      have j2 : (k : Int) < 8 := by omega
      have j3 : ¬ 9223372036854775807 < T.size + S.size := by omega
      have HB1 := Lib.hid (hB.trans ((Lib.bytesWorld_below wr 5 S).mono hB.size))
      have HT := Lib.hid (show (T ++ S).size ≤ 30 * (k + 1) by rw [append_size]; omega)
      rw [hG]
      unfold gc
      clear hG hH hGH
      go_wp2_with fail
      refine (C1.out _).mono ?_
      rintro _ w' ⟨rfl, rfl⟩
      go_wp2_with fail
      refine (O1.out _).mono ?_
      rintro _ w' ⟨rfl, rfl⟩
      go_wp2_with fail
      go_roundw
      case rel => exact ⟨k + 1, T ++ S, by omega, by omega, by go_num, rfl, HT.out, by rw [HH.out]; rfl, HB1.out⟩
      case measure => simp [intOf]; omega
    · obtain ⟨G, hG⟩ : ∃ G, gon (0, 1) T.data.toList = G := ⟨_, rfl⟩
      rw [hG]
      unfold gc
      by_cases h1 : k < len
      · have h2 : ¬ k < 8 := fun g => hin ⟨h1, g⟩
        have j1 : (k : Int) < (len : Int) := by omega
        have j2 : ¬ (k : Int) < 8 := by omega
        clear hin h1 h2 HC HBL HAD
        have RM := Lib.hid (rmark_str T G hG (by unfold maxLen; omega))
        have hokG : Ok G := by rw [← hG]; exact ok_gon ok_i _
        have ZM := Lib.hid (z_p G hokG)
        have e1 := self_ok hokG
        clear hG
        go_wp2_with fail
        refine (RM.out _).mono ?_
        rintro _ x1 ⟨rfl, hx1⟩
        go_wp2_with fail
        refine (ZM.out _).mono ?_
        rintro _ x2 ⟨rfl, hx2⟩
        go_wp2_with fail
        go_ret
        exact ⟨rfl, (hB.trans (hx1.mono hB.size)).trans (hx2.mono (Nat.le_trans hB.size hx1.size))⟩
      · have j1 : ¬ (k : Int) < (len : Int) := by omega
        clear hin h1 HC HBL HAD
        have RM := Lib.hid (rmark_str T G hG (by unfold maxLen; omega))
        have hokG : Ok G := by rw [← hG]; exact ok_gon ok_i _
        have ZM := Lib.hid (z_p G hokG)
        have e1 := self_ok hokG
        clear hG
        go_wp2_with fail
        refine (RM.out _).mono ?_
        rintro _ x1 ⟨rfl, hx1⟩
        go_wp2_with fail
        refine (ZM.out _).mono ?_
        rintro _ x2 ⟨rfl, hx2⟩
        go_wp2_with fail
        go_ret
        exact ⟨rfl, (hB.trans (hx1.mono hB.size)).trans (hx2.mono (Nat.le_trans hB.size hx1.size))⟩

set_option maxRecDepth 100000 in
set_option maxHeartbeats 4000000 in
theorem markParts_big (v : Value) (len : Nat) (cs : Nat → ByteArray) (b off cap : Nat) (ad : Option Addr) (hv : v = .slice ad len cap) (had : 0 < len → ad = some ⟨b, off, none⟩) (n : Int) (hn : 40 < n) (w : World) (hbg : BegunTrue) (h : LibAt w)
    (hl : len ≤ 9223372036854775807) (hb : 0 < len → b < w.heap.size) (hc : ∀ i, i < len → w.cell? ⟨b, off + i, none⟩ = some (.string (cs i))) :
    Calls Tryd.prog 15 #[v, .int .i64 n] w fun e w' => e = .returned (.bool true) ∧ Below w.heap.size w w' := by
  subst hv
  have HB := Lib.hid (hbg w h)
  clear hbg h
  have HC := Lib.hid hc
  have HBL := Lib.hid hb
  have HAD := Lib.hid had
  clear hc hb had
  have n0 : ¬ n < 0 := by omega
  go_enter Tryd.func15, Tryd.ntmps15
  go_wp2_with fail
  refine HB.out.mono ?_
  rintro _ w0 ⟨rfl, hb0⟩
  have HB0 := Lib.hid hb0
  clear hb0
  go_wp2_with fail
  go_loopw [6, 7, 8] (fun t m i wr => PartsRel len w t m i wr) (fun _ _ i _ => 8 - (intOf i).toNat)
  case atStart =>
    refine ⟨0, ⟨#[]⟩, by omega, by omega, rfl, rfl, by simp [ByteArray.size], ?_, HB0.out⟩
    show _ = gc (0, 1)
    unfold gc
    rw [fk_zero, fk_one]
  case round =>
    obtain ⟨k, T, hk8, hkl, rfl, rfl, hT, rfl, hB⟩ := hrel
    by_cases hin : k < len ∧ k < 8
    · obtain ⟨h1, h2⟩ := hin
      obtain rfl := HAD.out (by omega)
      have hcell : wr.cell? ⟨b, off + k, none⟩ = some (.string (cs k)) := by rw [hB.cell (HBL.out (by omega))]; exact HC.out k h1
      have C1 := Lib.hid (cut_any (cs k) 30)
      have hS := cutS_size (cs k) 30
      generalize cutS (cs k) 30 = S at *
      have v1 := conv_str S
      obtain ⟨G, hG⟩ : ∃ G, gon (0, 1) T.data.toList = G := ⟨_, rfl⟩
      obtain ⟨H, hH⟩ : ∃ H, gon (0, 1) (T ++ S).data.toList = H := ⟨_, rfl⟩
      have hGH : gon G S.data.toList = H := by rw [← hG, ← hH, append_toList, gon_append]
      have hokG : Ok G := by rw [← hG]; exact ok_gon ok_i _
      have O1 := Lib.hid (fun cap2 => on_str G hokG S wr.heap.size S.size cap2 H hGH rfl (by unfold maxLen; omega) _ (bytesAt_str wr 5 S))
      have HH := Lib.hid hH
      have j1 : (k : Int) < (len : Int) := by omega
      have j2 : (k : Int) < 8 := by omega
      have j3 : ¬ 9223372036854775807 < T.size + S.size := by omega
      have HB1 := Lib.hid (hB.trans ((Lib.bytesWorld_below wr 5 S).mono hB.size))
      have HT := Lib.hid (show (T ++ S).size ≤ 30 * (k + 1) by rw [append_size]; omega)
      rw [hG]
      unfold gc
      clear hG hH hGH
      go_wp2_with fail
      refine (C1.out _).mono ?_
      rintro _ w' ⟨rfl, rfl⟩
      go_wp2_with fail
      refine (O1.out _).mono ?_
      rintro _ w' ⟨rfl, rfl⟩
      go_wp2_with fail
      go_roundw
      case rel => exact ⟨k + 1, T ++ S, by omega, by omega, by go_num, rfl, HT.out, by rw [HH.out]; rfl, HB1.out⟩
      case measure => simp [intOf]; omega
    · obtain ⟨G, hG⟩ : ∃ G, gon (0, 1) T.data.toList = G := ⟨_, rfl⟩
      rw [hG]
      unfold gc
      by_cases h1 : k < len
      · have h2 : ¬ k < 8 := fun g => hin ⟨h1, g⟩
        have j1 : (k : Int) < (len : Int) := by omega
        have j2 : ¬ (k : Int) < 8 := by omega
        clear hin h1 h2 HC HBL HAD
        have RM := Lib.hid (rmark_str T G hG (by unfold maxLen; omega))
        have hokG : Ok G := by rw [← hG]; exact ok_gon ok_i _
        have ZM := Lib.hid (z_p G hokG)
        have e1 := self_ok hokG
        clear hG
        go_wp2_with fail
        refine (RM.out _).mono ?_
        rintro _ x1 ⟨rfl, hx1⟩
        go_wp2_with fail
        refine (ZM.out _).mono ?_
        rintro _ x2 ⟨rfl, hx2⟩
        go_wp2_with fail
        go_ret
        exact ⟨rfl, (hB.trans (hx1.mono hB.size)).trans (hx2.mono (Nat.le_trans hB.size hx1.size))⟩
      · have j1 : ¬ (k : Int) < (len : Int) := by omega
        clear hin h1 HC HBL HAD
        have RM := Lib.hid (rmark_str T G hG (by unfold maxLen; omega))
        have hokG : Ok G := by rw [← hG]; exact ok_gon ok_i _
        have ZM := Lib.hid (z_p G hokG)
        have e1 := self_ok hokG
        clear hG
        go_wp2_with fail
        refine (RM.out _).mono ?_
        rintro _ x1 ⟨rfl, hx1⟩
        go_wp2_with fail
        refine (ZM.out _).mono ?_
        rintro _ x2 ⟨rfl, hx2⟩
        go_wp2_with fail
        go_ret
        exact ⟨rfl, (hB.trans (hx1.mono hB.size)).trans (hx2.mono (Nat.le_trans hB.size hx1.size))⟩

set_option maxRecDepth 100000 in
set_option maxHeartbeats 4000000 in
theorem markParts_in (v : Value) (len : Nat) (cs : Nat → ByteArray) (b off cap : Nat) (ad : Option Addr) (hv : v = .slice ad len cap) (had : 0 < len → ad = some ⟨b, off, none⟩) (n : Nat) (hn : n ≤ 40) (w : World) (hbg : BegunTrue) (h : LibAt w)
    (hl : len ≤ 9223372036854775807) (hb : 0 < len → b < w.heap.size) (hc : ∀ i, i < len → w.cell? ⟨b, off + i, none⟩ = some (.string (cs i))) :
    Calls Tryd.prog 15 #[v, .int .i64 (n : Int)] w fun e w' => e = .returned (.bool true) ∧ Below w.heap.size w w' := by
  subst hv
  have HB := Lib.hid (hbg w h)
  clear hbg h
  have HC := Lib.hid hc
  have HBL := Lib.hid hb
  have HAD := Lib.hid had
  clear hc hb had
  have n0 : ¬ (n : Int) < 0 := by omega
  have n1 : ¬ (40 : Int) < (n : Int) := by omega
  go_enter Tryd.func15, Tryd.ntmps15
  go_wp2_with fail
  refine HB.out.mono ?_
  rintro _ w0 ⟨rfl, hb0⟩
  have HB0 := Lib.hid hb0
  clear hb0
  go_wp2_with fail
  go_loopw [6, 7, 8] (fun t m i wr => PartsRel len w t m i wr) (fun _ _ i _ => 8 - (intOf i).toNat)
  case atStart =>
    refine ⟨0, ⟨#[]⟩, by omega, by omega, rfl, rfl, by simp [ByteArray.size], ?_, HB0.out⟩
    show _ = gc (0, 1)
    unfold gc
    rw [fk_zero, fk_one]
  case round =>
    obtain ⟨k, T, hk8, hkl, rfl, rfl, hT, rfl, hB⟩ := hrel
    by_cases hin : k < len ∧ k < 8
    · obtain ⟨h1, h2⟩ := hin
      obtain rfl := HAD.out (by omega)
      have hcell : wr.cell? ⟨b, off + k, none⟩ = some (.string (cs k)) := by rw [hB.cell (HBL.out (by omega))]; exact HC.out k h1
      have C1 := Lib.hid (cut_any (cs k) 30)
      have hS := cutS_size (cs k) 30
      generalize cutS (cs k) 30 = S at *
      have v1 := conv_str S
      obtain ⟨G, hG⟩ : ∃ G, gon (0, 1) T.data.toList = G := ⟨_, rfl⟩
      obtain ⟨H, hH⟩ : ∃ H, gon (0, 1) (T ++ S).data.toList = H := ⟨_, rfl⟩
      have hGH : gon G S.data.toList = H := by rw [← hG, ← hH, append_toList, gon_append]
      have hokG : Ok G := by rw [← hG]; exact ok_gon ok_i _
      have O1 := Lib.hid (fun cap2 => on_str G hokG S wr.heap.size S.size cap2 H hGH rfl (by unfold maxLen; omega) _ (bytesAt_str wr 5 S))
      have HH := Lib.hid hH
      have j1 : (k : Int) < (len : Int) := by omega
      have j2 : (k : Int) < 8 := by omega
      have j3 : ¬ 9223372036854775807 < T.size + S.size := by omega
      have HB1 := Lib.hid (hB.trans ((Lib.bytesWorld_below wr 5 S).mono hB.size))
      have HT := Lib.hid (show (T ++ S).size ≤ 30 * (k + 1) by rw [append_size]; omega)
      rw [hG]
      unfold gc
      clear hG hH hGH
      go_wp2_with fail
      refine (C1.out _).mono ?_
      rintro _ w' ⟨rfl, rfl⟩
      go_wp2_with fail
      refine (O1.out _).mono ?_
      rintro _ w' ⟨rfl, rfl⟩
      go_wp2_with fail
      go_roundw
      case rel => exact ⟨k + 1, T ++ S, by omega, by omega, by go_num, rfl, HT.out, by rw [HH.out]; rfl, HB1.out⟩
      case measure => simp [intOf]; omega
    · obtain ⟨G, hG⟩ : ∃ G, gon (0, 1) T.data.toList = G := ⟨_, rfl⟩
      rw [hG]
      unfold gc
      by_cases h1 : k < len
      · have h2 : ¬ k < 8 := fun g => hin ⟨h1, g⟩
        have j1 : (k : Int) < (len : Int) := by omega
        have j2 : ¬ (k : Int) < 8 := by omega
        clear hin h1 h2 HC HBL HAD
        have RM := Lib.hid (rmark_str T G hG (by unfold maxLen; omega))
        have hokG : Ok G := by rw [← hG]; exact ok_gon ok_i _
        have ZM := Lib.hid (z_p G hokG)
        have e1 := self_ok hokG
        clear hG
        have q1 : IntKind.i64.wrap ((n : Int) + 1) = (n : Int) + 1 := IntWalk.i64_in _ (by omega)
        have v4 := make_any n (by omega)
        have v5 : ∀ w, (Instr.makeSlice 39 (.int .i64 ((n : Int) + 1)) (.int .i64 ((n : Int) + 1))).run Tryd.prog w = .ok (.slice (some ⟨w.heap.size, 0, none⟩) (n + 1) (n + 1)) (w.alloc (.cells (madeCells #[.int .u8 0] (n + 1)) 5)) := fun w => make_any (n + 1) (by omega) w
        obtain ⟨Z0, hZ0⟩ : ∃ Z, gon (0, 1) (List.replicate n 0) = Z := ⟨_, rfl⟩
        obtain ⟨Z1, hZ1⟩ : ∃ Z, gon (0, 1) (List.replicate (n + 1) 0) = Z := ⟨_, rfl⟩
        have hZZ : Z0 ≠ Z1 := by rw [← hZ0, ← hZ1]; exact gon_noughts ⟨n, by omega⟩
        have okZ0 : Ok Z0 := by rw [← hZ0]; exact ok_gon ok_i _
        have okZ1 : Ok Z1 := by rw [← hZ1]; exact ok_gon ok_i _
        have e2 := eqF_ok okZ0 okZ1
        rw [decide_eq_false hZZ] at e2
        unfold eqF at e2
        have N1 := Lib.hid (mark_zeros n (by omega) Z0 hZ0 wr.heap.size n (wr.alloc (.cells (madeCells #[.int .u8 0] n) 5)).drew (zeros_at wr n _))
        have N2 := Lib.hid (mark_zeros (n + 1) (by omega) Z1 hZ1 (wr.heap.size + 1) (n + 1) ((wr.alloc (.cells (madeCells #[.int .u8 0] n) 5)).alloc (.cells (madeCells #[.int .u8 0] (n + 1)) 5)).drew (by have h := zeros_at (wr.alloc (.cells (madeCells #[.int .u8 0] n) 5)) (n + 1) 5; rw [World.size_alloc] at h; exact h))
        have N3 := Lib.hid (mark_zeros n (by omega) Z0 hZ0 wr.heap.size n ((wr.alloc (.cells (madeCells #[.int .u8 0] n) 5)).alloc (.cells (madeCells #[.int .u8 0] (n + 1)) 5)).drew ((zeros_at wr n _).alloc (by rw [World.size_alloc]; omega) _))
        have N4 := Lib.hid (mark_zeros n (by omega) Z0 hZ0 (wr.heap.size + 1) n ((wr.alloc (.cells (madeCells #[.int .u8 0] (n + 1)) 5)).alloc (.cells (madeCells #[.int .u8 0] n) 5)).drew (by have h := zeros_at (wr.alloc (.cells (madeCells #[.int .u8 0] (n + 1)) 5)) n 5; rw [World.size_alloc] at h; exact h))
        have N5 := Lib.hid (mark_zeros (n + 1) (by omega) Z1 hZ1 wr.heap.size (n + 1) ((wr.alloc (.cells (madeCells #[.int .u8 0] (n + 1)) 5)).alloc (.cells (madeCells #[.int .u8 0] n) 5)).drew ((zeros_at wr (n + 1) _).alloc (by rw [World.size_alloc]; omega) _))
        have HA : Hid (Below w.heap.size w ((wr.alloc (.cells (madeCells #[.int .u8 0] n) 5)).alloc (.cells (madeCells #[.int .u8 0] (n + 1)) 5)).drew) := Lib.hid (((hB.alloc hB.size _).alloc (by rw [World.size_alloc]; have := hB.size; omega) _).drew)
        have HBB : Hid (Below w.heap.size w ((wr.alloc (.cells (madeCells #[.int .u8 0] (n + 1)) 5)).alloc (.cells (madeCells #[.int .u8 0] n) 5)).drew) := Lib.hid (((hB.alloc hB.size _).alloc (by rw [World.size_alloc]; have := hB.size; omega) _).drew)
        unfold gc at N1 N2 N3 N4 N5
        clear hZ0 hZ1 hZZ hB
        go_wp2_with fail
        refine wp_region_any (by kernel_rfl) ?_
        change wpAny _ _ _ _ _ _ _ (World.drew _)
        refine wpAny_take (i := 0) (v := Value.int .i64 (n : Int)) rfl (by kernel_rfl) (by kernel_rfl) (by kernel_rfl) (fun _ _ _ h => h) (Or.inl ⟨by rfl, ?_⟩) ?_
        · intro w; go_simp
        refine wpAny_take (i := 3) (v := Value.int .i64 (n : Int)) rfl (by kernel_rfl) (by kernel_rfl) (by kernel_rfl) (fun _ _ _ h => h) (Or.inl ⟨by rfl, ?_⟩) ?_
        · intro w; go_simp
        refine wpAny_take (i := 4) (v := Value.int .i64 ((n : Int) + 1)) rfl (by kernel_rfl) (by kernel_rfl) (by kernel_rfl) (fun _ _ _ h => h) (Or.inl ⟨by rfl, ?_⟩) ?_
        · intro w; go_simp
        refine wpAny_ready (rs := [1, 5]) (by kernel_rfl) (by simp) ?_
        refine AllReady.cons rfl (fun K hK => ?_) (AllReady.cons rfl (fun K hK => ?_) AllReady.nil)
        · go_simp
          refine hK _ _ ?_
          clear hK K
          refine wpAny_ready (rs := [2, 5]) (by kernel_rfl) (by simp) ?_
          refine AllReady.cons rfl (fun K hK => ?_) (AllReady.cons rfl (fun K hK => ?_) AllReady.nil)
          · go_simp
            go_wp2_with (go_at_call 33; (with_reducible refine N1.out.mono ?_); rintro _ w' ⟨rfl, rfl⟩)
            try (refine hK _ _ ?_; clear hK K)
            refine wpAny_ready (rs := [5]) (by kernel_rfl) (by simp) ?_
            refine AllReady.cons rfl (fun K hK => ?_) AllReady.nil
            go_simp
            refine hK _ _ ?_
            clear hK K
            refine wpAny_ready (rs := [6]) (by kernel_rfl) (by simp) ?_
            refine AllReady.cons rfl (fun K hK => ?_) AllReady.nil
            go_simp
            go_wp2_with (go_at_call 33; (with_reducible refine N2.out.mono ?_); rintro _ w' ⟨rfl, rfl⟩)
            try (refine hK _ _ ?_; clear hK K)
            refine wpAny_take (i := 7) (v := (Value.complex .f64 (fk 0 Z0.1) (fk 0 Z0.2))) rfl (by kernel_rfl) (by kernel_rfl) (by kernel_rfl) (fun _ _ _ h => h) (Or.inl ⟨by rfl, ?_⟩) ?_
            · intro w; go_simp
            refine wpAny_take (i := 8) (v := (Value.complex .f64 (fk 0 Z1.1) (fk 0 Z1.2))) rfl (by kernel_rfl) (by kernel_rfl) (by kernel_rfl) (fun _ _ _ h => h) (Or.inl ⟨by rfl, ?_⟩) ?_
            · intro w; go_simp
            refine wpAny_done (by kernel_rfl) ?_ _
            go_wp2_with fail
            refine (RM.out _).mono ?_
            rintro _ x1 ⟨rfl, hx1⟩
            go_wp2_with fail
            refine (ZM.out _).mono ?_
            rintro _ x2 ⟨rfl, hx2⟩
            go_wp2_with fail
            go_ret
            exact ⟨rfl, (HA.out.trans (hx1.mono HA.out.size)).trans (hx2.mono (Nat.le_trans HA.out.size hx1.size))⟩
          · go_simp
            refine hK _ _ ?_
            clear hK K
            refine wpAny_ready (rs := [2]) (by kernel_rfl) (by simp) ?_
            refine AllReady.cons rfl (fun K hK => ?_) AllReady.nil
            go_simp
            go_wp2_with (go_at_call 33; (with_reducible refine N3.out.mono ?_); rintro _ w' ⟨rfl, rfl⟩)
            try (refine hK _ _ ?_; clear hK K)
            refine wpAny_ready (rs := [6]) (by kernel_rfl) (by simp) ?_
            refine AllReady.cons rfl (fun K hK => ?_) AllReady.nil
            go_simp
            go_wp2_with (go_at_call 33; (with_reducible refine N2.out.mono ?_); rintro _ w' ⟨rfl, rfl⟩)
            try (refine hK _ _ ?_; clear hK K)
            refine wpAny_take (i := 7) (v := (Value.complex .f64 (fk 0 Z0.1) (fk 0 Z0.2))) rfl (by kernel_rfl) (by kernel_rfl) (by kernel_rfl) (fun _ _ _ h => h) (Or.inl ⟨by rfl, ?_⟩) ?_
            · intro w; go_simp
            refine wpAny_take (i := 8) (v := (Value.complex .f64 (fk 0 Z1.1) (fk 0 Z1.2))) rfl (by kernel_rfl) (by kernel_rfl) (by kernel_rfl) (fun _ _ _ h => h) (Or.inl ⟨by rfl, ?_⟩) ?_
            · intro w; go_simp
            refine wpAny_done (by kernel_rfl) ?_ _
            go_wp2_with fail
            refine (RM.out _).mono ?_
            rintro _ x1 ⟨rfl, hx1⟩
            go_wp2_with fail
            refine (ZM.out _).mono ?_
            rintro _ x2 ⟨rfl, hx2⟩
            go_wp2_with fail
            go_ret
            exact ⟨rfl, (HA.out.trans (hx1.mono HA.out.size)).trans (hx2.mono (Nat.le_trans HA.out.size hx1.size))⟩
        · go_simp
          refine hK _ _ ?_
          clear hK K
          refine wpAny_ready (rs := [1]) (by kernel_rfl) (by simp) ?_
          refine AllReady.cons rfl (fun K hK => ?_) AllReady.nil
          go_simp
          refine hK _ _ ?_
          clear hK K
          refine wpAny_ready (rs := [2]) (by kernel_rfl) (by simp) ?_
          refine AllReady.cons rfl (fun K hK => ?_) AllReady.nil
          go_simp
          go_wp2_with (go_at_call 33; (with_reducible refine N4.out.mono ?_); rintro _ w' ⟨rfl, rfl⟩)
          try (refine hK _ _ ?_; clear hK K)
          refine wpAny_ready (rs := [6]) (by kernel_rfl) (by simp) ?_
          refine AllReady.cons rfl (fun K hK => ?_) AllReady.nil
          go_simp
          go_wp2_with (go_at_call 33; (with_reducible refine N5.out.mono ?_); rintro _ w' ⟨rfl, rfl⟩)
          try (refine hK _ _ ?_; clear hK K)
          refine wpAny_take (i := 7) (v := (Value.complex .f64 (fk 0 Z0.1) (fk 0 Z0.2))) rfl (by kernel_rfl) (by kernel_rfl) (by kernel_rfl) (fun _ _ _ h => h) (Or.inl ⟨by rfl, ?_⟩) ?_
          · intro w; go_simp
          refine wpAny_take (i := 8) (v := (Value.complex .f64 (fk 0 Z1.1) (fk 0 Z1.2))) rfl (by kernel_rfl) (by kernel_rfl) (by kernel_rfl) (fun _ _ _ h => h) (Or.inl ⟨by rfl, ?_⟩) ?_
          · intro w; go_simp
          refine wpAny_done (by kernel_rfl) ?_ _
          go_wp2_with fail
          refine (RM.out _).mono ?_
          rintro _ x1 ⟨rfl, hx1⟩
          go_wp2_with fail
          refine (ZM.out _).mono ?_
          rintro _ x2 ⟨rfl, hx2⟩
          go_wp2_with fail
          go_ret
          exact ⟨rfl, (HBB.out.trans (hx1.mono HBB.out.size)).trans (hx2.mono (Nat.le_trans HBB.out.size hx1.size))⟩
      · have j1 : ¬ (k : Int) < (len : Int) := by omega
        clear hin h1 HC HBL HAD
        have RM := Lib.hid (rmark_str T G hG (by unfold maxLen; omega))
        have hokG : Ok G := by rw [← hG]; exact ok_gon ok_i _
        have ZM := Lib.hid (z_p G hokG)
        have e1 := self_ok hokG
        clear hG
        have q1 : IntKind.i64.wrap ((n : Int) + 1) = (n : Int) + 1 := IntWalk.i64_in _ (by omega)
        have v4 := make_any n (by omega)
        have v5 : ∀ w, (Instr.makeSlice 39 (.int .i64 ((n : Int) + 1)) (.int .i64 ((n : Int) + 1))).run Tryd.prog w = .ok (.slice (some ⟨w.heap.size, 0, none⟩) (n + 1) (n + 1)) (w.alloc (.cells (madeCells #[.int .u8 0] (n + 1)) 5)) := fun w => make_any (n + 1) (by omega) w
        obtain ⟨Z0, hZ0⟩ : ∃ Z, gon (0, 1) (List.replicate n 0) = Z := ⟨_, rfl⟩
        obtain ⟨Z1, hZ1⟩ : ∃ Z, gon (0, 1) (List.replicate (n + 1) 0) = Z := ⟨_, rfl⟩
        have hZZ : Z0 ≠ Z1 := by rw [← hZ0, ← hZ1]; exact gon_noughts ⟨n, by omega⟩
        have okZ0 : Ok Z0 := by rw [← hZ0]; exact ok_gon ok_i _
        have okZ1 : Ok Z1 := by rw [← hZ1]; exact ok_gon ok_i _
        have e2 := eqF_ok okZ0 okZ1
        rw [decide_eq_false hZZ] at e2
        unfold eqF at e2
        have N1 := Lib.hid (mark_zeros n (by omega) Z0 hZ0 wr.heap.size n (wr.alloc (.cells (madeCells #[.int .u8 0] n) 5)).drew (zeros_at wr n _))
        have N2 := Lib.hid (mark_zeros (n + 1) (by omega) Z1 hZ1 (wr.heap.size + 1) (n + 1) ((wr.alloc (.cells (madeCells #[.int .u8 0] n) 5)).alloc (.cells (madeCells #[.int .u8 0] (n + 1)) 5)).drew (by have h := zeros_at (wr.alloc (.cells (madeCells #[.int .u8 0] n) 5)) (n + 1) 5; rw [World.size_alloc] at h; exact h))
        have N3 := Lib.hid (mark_zeros n (by omega) Z0 hZ0 wr.heap.size n ((wr.alloc (.cells (madeCells #[.int .u8 0] n) 5)).alloc (.cells (madeCells #[.int .u8 0] (n + 1)) 5)).drew ((zeros_at wr n _).alloc (by rw [World.size_alloc]; omega) _))
        have N4 := Lib.hid (mark_zeros n (by omega) Z0 hZ0 (wr.heap.size + 1) n ((wr.alloc (.cells (madeCells #[.int .u8 0] (n + 1)) 5)).alloc (.cells (madeCells #[.int .u8 0] n) 5)).drew (by have h := zeros_at (wr.alloc (.cells (madeCells #[.int .u8 0] (n + 1)) 5)) n 5; rw [World.size_alloc] at h; exact h))
        have N5 := Lib.hid (mark_zeros (n + 1) (by omega) Z1 hZ1 wr.heap.size (n + 1) ((wr.alloc (.cells (madeCells #[.int .u8 0] (n + 1)) 5)).alloc (.cells (madeCells #[.int .u8 0] n) 5)).drew ((zeros_at wr (n + 1) _).alloc (by rw [World.size_alloc]; omega) _))
        have HA : Hid (Below w.heap.size w ((wr.alloc (.cells (madeCells #[.int .u8 0] n) 5)).alloc (.cells (madeCells #[.int .u8 0] (n + 1)) 5)).drew) := Lib.hid (((hB.alloc hB.size _).alloc (by rw [World.size_alloc]; have := hB.size; omega) _).drew)
        have HBB : Hid (Below w.heap.size w ((wr.alloc (.cells (madeCells #[.int .u8 0] (n + 1)) 5)).alloc (.cells (madeCells #[.int .u8 0] n) 5)).drew) := Lib.hid (((hB.alloc hB.size _).alloc (by rw [World.size_alloc]; have := hB.size; omega) _).drew)
        unfold gc at N1 N2 N3 N4 N5
        clear hZ0 hZ1 hZZ hB
        go_wp2_with fail
        refine wp_region_any (by kernel_rfl) ?_
        change wpAny _ _ _ _ _ _ _ (World.drew _)
        refine wpAny_take (i := 0) (v := Value.int .i64 (n : Int)) rfl (by kernel_rfl) (by kernel_rfl) (by kernel_rfl) (fun _ _ _ h => h) (Or.inl ⟨by rfl, ?_⟩) ?_
        · intro w; go_simp
        refine wpAny_take (i := 3) (v := Value.int .i64 (n : Int)) rfl (by kernel_rfl) (by kernel_rfl) (by kernel_rfl) (fun _ _ _ h => h) (Or.inl ⟨by rfl, ?_⟩) ?_
        · intro w; go_simp
        refine wpAny_take (i := 4) (v := Value.int .i64 ((n : Int) + 1)) rfl (by kernel_rfl) (by kernel_rfl) (by kernel_rfl) (fun _ _ _ h => h) (Or.inl ⟨by rfl, ?_⟩) ?_
        · intro w; go_simp
        refine wpAny_ready (rs := [1, 5]) (by kernel_rfl) (by simp) ?_
        refine AllReady.cons rfl (fun K hK => ?_) (AllReady.cons rfl (fun K hK => ?_) AllReady.nil)
        · go_simp
          refine hK _ _ ?_
          clear hK K
          refine wpAny_ready (rs := [2, 5]) (by kernel_rfl) (by simp) ?_
          refine AllReady.cons rfl (fun K hK => ?_) (AllReady.cons rfl (fun K hK => ?_) AllReady.nil)
          · go_simp
            go_wp2_with (go_at_call 33; (with_reducible refine N1.out.mono ?_); rintro _ w' ⟨rfl, rfl⟩)
            try (refine hK _ _ ?_; clear hK K)
            refine wpAny_ready (rs := [5]) (by kernel_rfl) (by simp) ?_
            refine AllReady.cons rfl (fun K hK => ?_) AllReady.nil
            go_simp
            refine hK _ _ ?_
            clear hK K
            refine wpAny_ready (rs := [6]) (by kernel_rfl) (by simp) ?_
            refine AllReady.cons rfl (fun K hK => ?_) AllReady.nil
            go_simp
            go_wp2_with (go_at_call 33; (with_reducible refine N2.out.mono ?_); rintro _ w' ⟨rfl, rfl⟩)
            try (refine hK _ _ ?_; clear hK K)
            refine wpAny_take (i := 7) (v := (Value.complex .f64 (fk 0 Z0.1) (fk 0 Z0.2))) rfl (by kernel_rfl) (by kernel_rfl) (by kernel_rfl) (fun _ _ _ h => h) (Or.inl ⟨by rfl, ?_⟩) ?_
            · intro w; go_simp
            refine wpAny_take (i := 8) (v := (Value.complex .f64 (fk 0 Z1.1) (fk 0 Z1.2))) rfl (by kernel_rfl) (by kernel_rfl) (by kernel_rfl) (fun _ _ _ h => h) (Or.inl ⟨by rfl, ?_⟩) ?_
            · intro w; go_simp
            refine wpAny_done (by kernel_rfl) ?_ _
            go_wp2_with fail
            refine (RM.out _).mono ?_
            rintro _ x1 ⟨rfl, hx1⟩
            go_wp2_with fail
            refine (ZM.out _).mono ?_
            rintro _ x2 ⟨rfl, hx2⟩
            go_wp2_with fail
            go_ret
            exact ⟨rfl, (HA.out.trans (hx1.mono HA.out.size)).trans (hx2.mono (Nat.le_trans HA.out.size hx1.size))⟩
          · go_simp
            refine hK _ _ ?_
            clear hK K
            refine wpAny_ready (rs := [2]) (by kernel_rfl) (by simp) ?_
            refine AllReady.cons rfl (fun K hK => ?_) AllReady.nil
            go_simp
            go_wp2_with (go_at_call 33; (with_reducible refine N3.out.mono ?_); rintro _ w' ⟨rfl, rfl⟩)
            try (refine hK _ _ ?_; clear hK K)
            refine wpAny_ready (rs := [6]) (by kernel_rfl) (by simp) ?_
            refine AllReady.cons rfl (fun K hK => ?_) AllReady.nil
            go_simp
            go_wp2_with (go_at_call 33; (with_reducible refine N2.out.mono ?_); rintro _ w' ⟨rfl, rfl⟩)
            try (refine hK _ _ ?_; clear hK K)
            refine wpAny_take (i := 7) (v := (Value.complex .f64 (fk 0 Z0.1) (fk 0 Z0.2))) rfl (by kernel_rfl) (by kernel_rfl) (by kernel_rfl) (fun _ _ _ h => h) (Or.inl ⟨by rfl, ?_⟩) ?_
            · intro w; go_simp
            refine wpAny_take (i := 8) (v := (Value.complex .f64 (fk 0 Z1.1) (fk 0 Z1.2))) rfl (by kernel_rfl) (by kernel_rfl) (by kernel_rfl) (fun _ _ _ h => h) (Or.inl ⟨by rfl, ?_⟩) ?_
            · intro w; go_simp
            refine wpAny_done (by kernel_rfl) ?_ _
            go_wp2_with fail
            refine (RM.out _).mono ?_
            rintro _ x1 ⟨rfl, hx1⟩
            go_wp2_with fail
            refine (ZM.out _).mono ?_
            rintro _ x2 ⟨rfl, hx2⟩
            go_wp2_with fail
            go_ret
            exact ⟨rfl, (HA.out.trans (hx1.mono HA.out.size)).trans (hx2.mono (Nat.le_trans HA.out.size hx1.size))⟩
        · go_simp
          refine hK _ _ ?_
          clear hK K
          refine wpAny_ready (rs := [1]) (by kernel_rfl) (by simp) ?_
          refine AllReady.cons rfl (fun K hK => ?_) AllReady.nil
          go_simp
          refine hK _ _ ?_
          clear hK K
          refine wpAny_ready (rs := [2]) (by kernel_rfl) (by simp) ?_
          refine AllReady.cons rfl (fun K hK => ?_) AllReady.nil
          go_simp
          go_wp2_with (go_at_call 33; (with_reducible refine N4.out.mono ?_); rintro _ w' ⟨rfl, rfl⟩)
          try (refine hK _ _ ?_; clear hK K)
          refine wpAny_ready (rs := [6]) (by kernel_rfl) (by simp) ?_
          refine AllReady.cons rfl (fun K hK => ?_) AllReady.nil
          go_simp
          go_wp2_with (go_at_call 33; (with_reducible refine N5.out.mono ?_); rintro _ w' ⟨rfl, rfl⟩)
          try (refine hK _ _ ?_; clear hK K)
          refine wpAny_take (i := 7) (v := (Value.complex .f64 (fk 0 Z0.1) (fk 0 Z0.2))) rfl (by kernel_rfl) (by kernel_rfl) (by kernel_rfl) (fun _ _ _ h => h) (Or.inl ⟨by rfl, ?_⟩) ?_
          · intro w; go_simp
          refine wpAny_take (i := 8) (v := (Value.complex .f64 (fk 0 Z1.1) (fk 0 Z1.2))) rfl (by kernel_rfl) (by kernel_rfl) (by kernel_rfl) (fun _ _ _ h => h) (Or.inl ⟨by rfl, ?_⟩) ?_
          · intro w; go_simp
          refine wpAny_done (by kernel_rfl) ?_ _
          go_wp2_with fail
          refine (RM.out _).mono ?_
          rintro _ x1 ⟨rfl, hx1⟩
          go_wp2_with fail
          refine (ZM.out _).mono ?_
          rintro _ x2 ⟨rfl, hx2⟩
          go_wp2_with fail
          go_ret
          exact ⟨rfl, (HBB.out.trans (hx1.mono HBB.out.size)).trans (hx2.mono (Nat.le_trans HBB.out.size hx1.size))⟩

theorem markParts_walk (v : Value) (len : Nat) (cs : Nat → ByteArray) (b off cap : Nat) (ad : Option Addr) (hv : v = .slice ad len cap) (had : 0 < len → ad = some ⟨b, off, none⟩) (n : Int) (w : World) (hbg : BegunTrue) (h : LibAt w)
    (hl : len ≤ 9223372036854775807) (hb : 0 < len → b < w.heap.size) (hc : ∀ i, i < len → w.cell? ⟨b, off + i, none⟩ = some (.string (cs i))) :
    Calls Tryd.prog 15 #[v, .int .i64 n] w fun e w' => e = .returned (.bool true) ∧ Below w.heap.size w w' := by
  by_cases h1 : n < 0
  · exact markParts_neg v len cs b off cap ad hv had n h1 w hbg h hl hb hc
  · by_cases h2 : 40 < n
    · exact markParts_big v len cs b off cap ad hv had n h2 w hbg h hl hb hc
    · have g := markParts_in v len cs b off cap ad hv had n.toNat (by omega) w hbg h hl hb hc
      rw [show ((n.toNat : Nat) : Int) = n from by omega] at g
      exact g

end Go.Proofs.YtamennoehnigaaaDoor
