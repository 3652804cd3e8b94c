/-
  Contracts of the program, and what they rest on.
-/
import Derived.Laws.Rows
import Derived.Test.YtaacdggjkfmehaaGreatDoorM22
import Derived.Test.YtaacdggjkfmehaaGreatDoorM03
import Derived.Test.YtaacdggjkfmehaaGreatDoorM02
import Derived.Test.YtaacdggjkfmehaaGreatDoorRRosI
import Derived.Test.YtaacdggjkfmehaaGreatDoorCaA
namespace Go.Proofs.YtaacdggjkfmehaaGreatDoor
open Go.RowKit Go.Maps Go.Proofs.MapD Go.Proofs.Chest
def QHb (hd : List Int) : Prop := ∀ k : Nat, k < 6 → 0 ≤ hd.getD k 0 ∧ hd.getD k 0 ≤ 1000000
def DropOut (d : Ro × Bool × Bool) (w : World) (e : Ending) (w' : World) : Prop :=
  ∃ ad cap, e = .returned (.tuple #[.agg #[.int .i64 d.1.ep, .slice ad d.1.l.length cap, .int .i64 d.1.nw], .bool d.2.1, .bool d.2.2]) ∧ IOwn w' w.heap.size (.slice ad d.1.l.length cap) d.1.l ∧ Below w.heap.size w w'
section
variable {w0 w : World} {y : Nat} {v v' : Value} {t : Qs} {L : List It}
set_option maxRecDepth 100000 in
set_option maxHeartbeats 4000000 in
theorem drops_q (h : QC w y v v' t) (hv : IsAt w v t.r.l) (hm : ∀ z ∈ t.r.l, 1 ≤ z ∧ z ≤ 5) (hl : t.r.l.length ≤ 900) (hh : QHb t.hd) (now : Int) (h0 : 0 ≤ now) (h1 : now ≤ 1000000) :
    Calls Tryz.prog 39 #[.pointer (some ⟨y, 0, none⟩), .int .i64 now] w (DropOut (qdrops t now) w) := by
  obtain ⟨ad, cap, rfl, _⟩ := hv.shape
  have HB := Lib.hid (ro_below w 0 (.slice none 0 0) 0 24)
  have HC := Lib.hid (h.kept (heap_alloc_old w (.cells #[.int .i64 0, .slice none 0 0, .int .i64 0] 24) h.lt))
  have HV := Lib.hid (hv.below HB.out)
  have HZ := Lib.hid (RC.new w 0 none 0 0 0 24)
  have HZL := Lib.hid (show w.heap.size < (w.alloc (.cells #[.int .i64 0, .slice none 0 0, .int .i64 0] 24)).heap.size by simp)
  have HM := Lib.hid hm
  have HH := Lib.hid hh
  obtain ⟨res, hres⟩ : ∃ res, silentS t.hd now t.r.l = res := ⟨_, rfl⟩
  have HRS := Lib.hid hres
  obtain ⟨D, hD⟩ : ∃ D, qdrops t now = D := ⟨_, rfl⟩
  rw [hD]
  have HD := Lib.hid hD
  clear h hv hm hh hres hD
  go_enter Tryz.func39, Tryz.ntmps39
  go_wp2_with fail
  generalize hW1 : w.alloc _ = W1 at *
  clear hW1
  obtain ⟨c0, c1, c2, _⟩ := HC.out.cells
  go_loopw [7, 8] (fun v7 _ wr => ∃ (k : Nat), v7 = .int .i64 k ∧ k ≤ t.r.l.length ∧ W1 = wr ∧ Hid (silentS t.hd now (t.r.l.drop k) = res)) (fun v7 _ _ => t.r.l.length - (intOf v7).toNat)
  case atStart => exact ⟨0, rfl, Nat.zero_le _, rfl, HRS⟩
  case round =>
    obtain ⟨k, rfl, hk, rfl, HR⟩ := hrel
    by_cases hlt : k < t.r.l.length
    · have hltz : (k : Int) < (t.r.l.length : Int) := by omega
      obtain ⟨z, hz⟩ : ∃ z, t.r.l[k]? = some z := ⟨_, List.getElem?_eq_getElem hlt⟩
      obtain ⟨g, o, rfl, d0⟩ := HV.out.get hz
      have hzb := HM.out z (List.mem_of_getElem? hz)
      obtain ⟨m, rfl⟩ : ∃ m : Nat, z = m := ⟨z.toNat, by omega⟩
      have hm6 : (m : Int) < 6 := by omega
      have d1 := HC.out.hd (show m < 6 by omega)
      have hYb := HH.out m (by omega)
      have hsil := HR.out
      have hd2 : t.r.l.drop k = (m : Int) :: t.r.l.drop (k + 1) := by
        obtain ⟨hlt', hel⟩ := List.getElem?_eq_some_iff.1 hz
        rw [List.drop_eq_getElem_cons hlt', hel]
      rw [hd2, silentS, show (m : Int).toNat = m from rfl] at hsil
      generalize t.hd.getD m 0 = Y at *
      by_cases hq : Y < now - 9
      · rw [if_pos hq] at hsil
        have hD := HD.out
        unfold qdrops at hD
        rw [HRS.out, if_neg (show ¬ res = 0 by omega), ← hsil] at hD
        have HDR := Lib.hid (rdropn_p t.r.ep t.r.nw m _ t.r.l _ HV.out hl)
        generalize dropR ⟨t.r.ep, t.r.l, t.r.nw⟩ (m : Int) = R at *
        clear hz hd2 HR HRS hsil HD
        have hle : ¬ now - Y ≤ 9 := by omega
        go_wp2_with fail
        refine HDR.out.mono ?_
        rintro _ w2 ⟨a9, c9, rfl, ho2, hb2⟩
        obtain ⟨⟨re, rl, rn⟩, rb⟩ := R
        dsimp only at ho2 hD ⊢
        have HO2 := Lib.hid ho2
        have HB2 := Lib.hid (HB.out.trans (hb2.mono HB.out.size))
        have HZ2 := Lib.hid (HZ.out.below hb2)
        have HSZ := Lib.hid hb2.size
        have HD2 := Lib.hid hD
        clear hb2 ho2 hD HZ HC HV c0 c1 c2 d0 d1 HDR
        go_wp2_with fail
        have HRB := Lib.hid (RC.new w2 re a9 rl.length c9 rn 24)
        have HA := Lib.hid ((Below.refl w2.heap.size w2).alloc (Nat.le_refl _) (.cells #[.int .i64 re, .slice a9 rl.length c9, .int .i64 rn] 24))
        have HZ3 := Lib.hid (HZ2.out.below HA.out)
        have HO3 := Lib.hid (HO2.out.below HA.out)
        have HB3 := Lib.hid (HB2.out.alloc HB2.out.size (.cells #[.int .i64 re, .slice a9 rl.length c9, .int .i64 rn] 24))
        have HLT := Lib.hid (show w.heap.size < w2.heap.size by have := HZ2.out.lt; exact this)
        have HW1 := Lib.hid (show w.heap.size < W1.heap.size from HZL.out)
        generalize w2.alloc _ = W3 at *
        generalize w2.heap.size = B9 at *
        have HOL := Lib.hid (fun g hg => HO3.out.lt (g := g) hg)
        obtain ⟨⟨p0, p1, p2⟩, f0, f1, f2⟩ := HZ3.out
        obtain ⟨⟨q0, q1, q2⟩, _⟩ := HRB.out
        have hne : ¬ w.heap.size = B9 := by have := HLT.out; omega
        have hne' : ¬ B9 = w.heap.size := by have := HLT.out; omega
        have HEND : Hid (∀ (u0 u1 u2 : Value) (W' : World), W'.heap = ((((W3.setCell ⟨w.heap.size, 0, none⟩ u0).setCell ⟨w.heap.size, 1, none⟩ u1).setCell ⟨w.heap.size, 2, none⟩ u2)).heap → W'.os = W3.os → W'.tape = W3.tape → W'.output = W3.output → IOwn W' w.heap.size (.slice a9 rl.length c9) rl ∧ Below w.heap.size w W') := Lib.hid (fun u0 u1 u2 W' hh e1 e2 e3 => by
          have hb := ((HB3.out.setCell (p := ⟨w.heap.size, 0, none⟩) (Nat.le_refl _) u0).setCell (p := ⟨w.heap.size, 1, none⟩) (Nat.le_refl _) u1).setCell (p := ⟨w.heap.size, 2, none⟩) (Nat.le_refl _) u2
          refine ⟨(HO3.out.mono (Nat.le_of_lt HW1.out)).kept (fun g hg => ?_), ⟨e1.trans hb.os, e2.trans hb.tape, e3.trans hb.output, by rw [hh]; exact hb.size, fun k hk => by rw [hh]; exact hb.block k hk⟩⟩
          have hg1 := (HOL.out g hg).1
          have hg2 : g ≠ w.heap.size := by have := HW1.out; omega
          rw [hh, Below.heap_setCell _ _ _ _ hg2, Below.heap_setCell _ _ _ _ hg2, Below.heap_setCell _ _ _ _ hg2])
        cases rb with
        | false =>
          have e : D = (⟨re, rl, rn⟩, true, false) := by rw [← HD2.out]; rfl
          subst e
          clear HD2 HA HZ2 HO2 HRB HZ3
          go_region
          go_wp2_with fail
          exact bodyPost_ret (v := .tuple #[.agg #[.int .i64 re, .slice a9 rl.length c9, .int .i64 rn], .bool true, .bool false]) (by simp [results, Tryz.results39, go_sem, p0, p1, p2]) rfl ⟨a9, c9, rfl, HEND.out _ _ _ _ rfl rfl rfl rfl⟩
        | true =>
          by_cases hg : 1 < rl.length
          · have e : D = (⟨re, rl, rn⟩, true, true) := by
              rw [← HD2.out, decide_eq_true hg]
              rfl
            subst e
            have hgd : decide (1 < (rl.length : Int)) = true := decide_eq_true (by omega)
            clear HD2 HA HZ2 HO2 HRB HZ3
            go_region
            go_wp2_with fail
            exact bodyPost_ret (v := .tuple #[.agg #[.int .i64 re, .slice a9 rl.length c9, .int .i64 rn], .bool true, .bool true]) (by simp [results, Tryz.results39, go_sem, p0, p1, p2]) rfl ⟨a9, c9, rfl, HEND.out _ _ _ _ rfl rfl rfl rfl⟩
          · have hgd : decide (1 < (rl.length : Int)) = false := decide_eq_false (by omega)
            have hgd2 : ¬ 1 < (rl.length : Int) := by omega
            by_cases hn : rn = 0
            · subst hn
              have e : D = (⟨re, rl, 0⟩, true, true) := by
                rw [← HD2.out, decide_eq_false hg]
                rfl
              subst e
              clear HD2 HA HZ2 HO2 HRB HZ3
              go_region
              go_wp2_with fail
              exact bodyPost_ret (v := .tuple #[.agg #[.int .i64 re, .slice a9 rl.length c9, .int .i64 0], .bool true, .bool true]) (by simp [results, Tryz.results39, go_sem, p0, p1, p2]) rfl ⟨a9, c9, rfl, HEND.out _ _ _ _ rfl rfl rfl rfl⟩
            · have hnb : (rn == 0) = false := by rw [beq_eq_false_iff_ne]; exact hn
              have e : D = (⟨re, rl, rn⟩, true, false) := by
                rw [← HD2.out, decide_eq_false hg]
                simp [hn]
              subst e
              clear HD2 HA HZ2 HO2 HRB HZ3 hn
              go_region
              go_wp2_with fail
              exact bodyPost_ret (v := .tuple #[.agg #[.int .i64 re, .slice a9 rl.length c9, .int .i64 rn], .bool true, .bool false]) (by simp [results, Tryz.results39, go_sem, p0, p1, p2]) rfl ⟨a9, c9, rfl, HEND.out _ _ _ _ rfl rfl rfl rfl⟩
      · rw [if_neg hq] at hsil
        have HN := Lib.hid hsil
        clear hz hd2 HR hsil
        have hle : now - Y ≤ 9 := by omega
        go_wp2_with fail
        go_roundw
        case rel => exact ⟨k + 1, by go_num, by omega, (by first | rfl | trivial), HN⟩
        case measure => simp [intOf]; omega
    · have hltz : ¬ (k : Int) < (t.r.l.length : Int) := by omega
      obtain rfl : k = t.r.l.length := by omega
      have hsil := HR.out
      rw [List.drop_length] at hsil
      have hsil : (0 : Int) = res := hsil
      have hD := HD.out
      unfold qdrops at hD
      rw [HRS.out, ← hsil, if_pos rfl] at hD
      subst hD
      obtain ⟨⟨p0, p1, p2⟩, f0, f1, f2⟩ := HZ.out
      clear HR HRS HD hsil
      go_wp2_with fail
      exact bodyPost_ret (v := .tuple #[.agg #[.int .i64 0, .slice none 0 0, .int .i64 0], .bool false, .bool false]) (by simp [results, Tryz.results39, go_sem, p0, p1, p2]) rfl ⟨none, 0, rfl, IOwn.nil _ _, ((HB.out.setCell (by simp) _).setCell (by simp) _).setCell (by simp) _⟩
end
end Go.Proofs.YtaacdggjkfmehaaGreatDoor
