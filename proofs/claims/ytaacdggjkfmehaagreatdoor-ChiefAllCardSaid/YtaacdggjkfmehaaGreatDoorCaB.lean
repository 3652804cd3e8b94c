/-
  Contracts of the program, and what they rest on.
-/
import Derived.Test.YtaacdggjkfmehaaGreatDoorM22
import Derived.Test.YtaacdggjkfmehaaGreatDoorM03
import Derived.Test.YtaacdggjkfmehaaGreatDoorM02
import Derived.Test.YtaacdggjkfmehaaGreatDoorRRosG
import Derived.Test.YtaacdggjkfmehaaGreatDoorCaA
namespace Go.Proofs.YtaacdggjkfmehaaGreatDoor
open Go.RowKit Go.Maps Go.Proofs.MapD Go.Proofs.Chest
section
variable {w0 w : World} {y : Nat} {v v' : Value} {t : Qs} {L : List It}
set_option maxRecDepth 100000 in
set_option maxHeartbeats 4000000 in
theorem hear_q (h : QC w y v v' t) (now : Int) :
    Calls Tryz.prog 31 #[.pointer (some ⟨y, 0, none⟩), .int .i64 now] w fun e w' => e = .returned (.tuple #[]) ∧ QC w' y v v' ⟨t.r, t.nx, t.chg, t.un, allH now, 0, t.lost⟩ ∧ Only [y] w w' := by
  have HH := Lib.hid h.2
  have HL0 : Hid (QC w y v v' ⟨t.r, t.nx, t.chg, t.un, hdK t.hd now 0, t.asks, t.lost⟩ ∧ Only [y] w w) := Lib.hid ⟨h, Only.refl _ _⟩
  clear h
  go_enter Tryz.func31, Tryz.ntmps31
  go_wp2_with fail
  go_loopw [4] (fun v4 wr => ∃ (k : Nat), v4 = .int .i64 k ∧ k ≤ 6 ∧ Hid (QC wr y v v' ⟨t.r, t.nx, t.chg, t.un, hdK t.hd now k, t.asks, t.lost⟩ ∧ Only [y] w wr)) (fun v4 _ => 6 - (intOf v4).toNat)
  case atStart => exact ⟨0, rfl, Nat.zero_le _, HL0⟩
  case round =>
    obtain ⟨k, rfl, hk, HR⟩ := hrel
    by_cases hlt : k < 6
    · have hltz : (k : Int) < 6 := by omega
      have d0 := HR.out.1.hd hlt
      have f0 := HR.out.1.free (8 + k)
      have hn := (HR.out.1.hear hlt now)
      dsimp only at hn
      rw [hdK_step HH.out now hlt] at hn
      have HN : Hid (QC (wr.setCell ⟨y, 8 + k, none⟩ (.int .i64 now)) y v v' ⟨t.r, t.nx, t.chg, t.un, hdK t.hd now (k + 1), t.asks, t.lost⟩ ∧ Only [y] w (wr.setCell ⟨y, 8 + k, none⟩ (.int .i64 now))) := Lib.hid ⟨hn, HR.out.2.setCell (p := ⟨y, 8 + k, none⟩) (.inl (by simp)) _⟩
      clear hn HR
      go_wp2_with fail
      go_roundw
      case rel => exact ⟨k + 1, by go_num, by omega, HN⟩
      case measure => simp [intOf]; omega
    · have hltz : ¬ (k : Int) < 6 := by omega
      obtain rfl : k = 6 := by omega
      rw [hdK_all HH.out now] at HR
      obtain ⟨_, _, _, _, _, _, _, _, c8, _⟩ := HR.out.1.cells
      have f0 := HR.out.1.free 14
      have HN := Lib.hid (And.intro (HR.out.1.asksS 0) (HR.out.2.setCell (p := ⟨y, 14, none⟩) (.inl (by simp)) (.int .i64 0)))
      clear HR HL0
      go_wp2_with fail
      first | exact bodyPost_end (results_none rfl _ _ _) rfl ⟨rfl, HN.out.1, HN.out.2⟩ | exact bodyPost_ret (results_none rfl _ _ _) rfl ⟨rfl, HN.out.1, HN.out.2⟩
set_option maxRecDepth 100000 in
set_option maxHeartbeats 4000000 in
theorem newq_no {e nw : Int} {l : List Int} {u : Value} (hu : IsAt w u l) (hl : l.length ≤ 1000) (hm : ¬ (mayR ⟨e, l, nw⟩ = true ∧ nw = 0)) (now : Int) :
    Calls Tryz.prog 9 #[.agg #[.int .i64 e, u, .int .i64 nw], .int .i64 now] w fun x w' => x = .returned (.tuple #[.pointer none, .bool false]) ∧ Below w.heap.size w w' := by
  obtain ⟨ad, cap, rfl, _⟩ := hu.shape
  have HB := Lib.hid (ro_below w e (.slice ad l.length cap) nw 24)
  have HRC := Lib.hid (RC.new w e ad l.length cap nw 24)
  have HMR := Lib.hid (rmayr_p e nw _ l _ (hu.below HB.out) (by omega))
  obtain ⟨⟨p0, p1, p2⟩, _⟩ := HRC.out
  go_enter Tryz.func9, Tryz.ntmps9
  go_wp2_with fail
  generalize w.alloc _ = W at *
  cases hq : mayR ⟨e, l, nw⟩ with
  | false =>
    rw [hq] at HMR
    clear hq hm
    refine HMR.out.mono ?_
    rintro _ w2 ⟨rfl, hb2⟩
    have HB2 := Lib.hid (HB.out.trans (hb2.mono HB.out.size))
    clear hb2 HMR
    go_wp2_with fail
    exact bodyPost_ret (v := .tuple #[.pointer none, .bool false]) (by simp [results, Tryz.results9, go_sem]) rfl ⟨rfl, HB2.out⟩
  | true =>
    rw [hq] at HMR
    have hn : ¬ nw = 0 := fun h => hm ⟨hq, h⟩
    have hnb : (nw != 0) = true := by rw [bne_iff_ne]; exact hn
    clear hq hm hn p0 p1 p2
    refine HMR.out.mono ?_
    rintro _ w2 ⟨rfl, hb2⟩
    obtain ⟨⟨p0, p1, p2⟩, _⟩ := HRC.out.below hb2
    have HB2 := Lib.hid (HB.out.trans (hb2.mono HB.out.size))
    clear hb2 HMR
    go_wp2_with fail
    exact bodyPost_ret (v := .tuple #[.pointer none, .bool false]) (by simp [results, Tryz.results9, go_sem]) rfl ⟨rfl, HB2.out⟩
set_option maxRecDepth 100000 in
set_option maxHeartbeats 4000000 in
theorem newq_yes {e : Int} {l : List Int} {u : Value} (h : Sp w0 w (ix u l :: L)) (hm : mayR ⟨e, l, 0⟩ = true) (now : Int) :
    Calls Tryz.prog 9 #[.agg #[.int .i64 e, u, .int .i64 0], .int .i64 now] w fun x w' => ∃ y, x = .returned (.tuple #[.pointer (some ⟨y, 0, none⟩), .bool true]) ∧ Sp w0 w' (qx y u (.slice none 0 0) (qbegin ⟨e, l, 0⟩ now) :: L) := by
  obtain ⟨ad, cap, rfl, _⟩ := h.ix.shape
  have hl := mayR_len hm
  have HB := Lib.hid (ro_below w e (.slice ad l.length cap) 0 24)
  have HS1 := Lib.hid (h.below HB.out)
  have HRC := Lib.hid (RC.new w e ad l.length cap 0 24)
  have HMR := rmayr_p e 0 _ l _ HS1.out.ix (by omega)
  rw [hm] at HMR
  have HMR := Lib.hid HMR
  obtain ⟨⟨p0, p1, p2⟩, _⟩ := HRC.out
  clear h hm hl HB
  go_enter Tryz.func9, Tryz.ntmps9
  go_wp2_with fail
  generalize w.alloc _ = W at *
  generalize w.heap.size = B at *
  clear p0 p1 p2
  refine HMR.out.mono ?_
  rintro _ w2 ⟨rfl, hb2⟩
  obtain ⟨⟨p0, p1, p2⟩, _⟩ := HRC.out.below hb2
  have HS2 := Lib.hid (HS1.out.below hb2)
  have HQ2 : Hid (QC (w2.alloc (.cells #[.int .i64 e, .slice ad l.length cap, .int .i64 0, .int .i64 0, .slice none 0 0, .int .i64 0, .bool false, .int .i64 now, .int .i64 0, .int .i64 0, .int .i64 0, .int .i64 0, .int .i64 0, .int .i64 0, .int .i64 0, .bool false] 51)) w2.heap.size (.slice ad l.length cap) (.slice none 0 0) ⟨⟨e, l, 0⟩, Ro.zero, false, now, [0, 0, 0, 0, 0, 0], 0, false⟩) := Lib.hid ⟨heap_alloc_new w2 _, rfl⟩
  clear hb2 HMR HS1
  go_wp2_with fail
  have HSZ := Lib.hid ((Below.refl _ w2).alloc (Nat.le_refl _) (.cells #[.int .i64 e, .slice ad l.length cap, .int .i64 0, .int .i64 0, .slice none 0 0, .int .i64 0, .bool false, .int .i64 now, .int .i64 0, .int .i64 0, .int .i64 0, .int .i64 0, .int .i64 0, .int .i64 0, .int .i64 0, .bool false] 51))
  generalize w2.alloc _ = W3 at *
  clear p0 p1 p2
  refine (hear_q HQ2.out now).mono ?_
  rintro _ w4 ⟨rfl, h4, ho4⟩
  have HB4 : Hid (Below w2.heap.size w2 w4) := Lib.hid (HSZ.out.trans (ho4.below (Nat.le_trans (Nat.le_refl _) HSZ.out.size) (by simp)))
  have H4 := Lib.hid h4
  clear h4 ho4 HSZ HQ2
  go_wp2_with fail
  exact bodyPost_ret (v := .tuple #[.pointer (some ⟨w2.heap.size, 0, none⟩), .bool true]) (by simp [results, Tryz.results9, go_sem]) rfl ⟨w2.heap.size, rfl, HS2.out.qNew HB4.out H4.out rfl rfl (Nat.le_refl _)⟩
end
end Go.Proofs.YtaacdggjkfmehaaGreatDoor
