/-
  RollAll answers true: what both chests tell behind each operation.
-/
import Derived.Test.YtaekieoingflaaaGreatDoorRfD
import Derived.Test.YtaekieoingflaaaGreatDoorBegun3
namespace Go.Proofs.YtaekieoingflaaaGreatDoor
open Go.RowKit Go.Maps Go.Proofs.MapD Go.Proofs.Chest

/-- What the loop keeps. -/
def AllRel (w : World) (z k : Nat) (cv dv : Value) (wr : World) : Prop :=
  ∃ c d st l, cv = .pointer (some ⟨c, 0, none⟩) ∧ dv = .pointer (some ⟨d, 0, none⟩) ∧ Hid (Like z st l ∧ l.length ≤ k) ∧ Hid (Sp w wr [ch c st, rch d z l])

theorem Sp.of_below' {w0 w : World} (h : Below w0.heap.size w0 w) : Sp w0 w [] := ⟨⟨[], rfl, by simp⟩, h⟩

set_option maxRecDepth 100000 in
set_option maxHeartbeats 8000000 in
theorem rollAll_walk (room : Int) (v : Value) (len : Nat) (ks ns : Nat → Int) (es bs ss : Nat → ByteArray) (b off cap : Nat) (ad : Option Addr) (hv : v = .slice ad len cap) (had : 0 < len → ad = some ⟨b, off, none⟩)
    (w : World) (hbg : BegunTrue3) (h : LibAt w) (hl : len ≤ 9223372036854775807) (hb : 0 < len → b < w.heap.size)
    (hc : ∀ i, i < len → w.cell? ⟨b, off + i * 5, none⟩ = some (.int .i64 (ks i)) ∧ w.cell? ⟨b, off + i * 5 + 1, none⟩ = some (.int .i64 (ns i)) ∧ w.cell? ⟨b, off + i * 5 + 2, none⟩ = some (.string (es i)) ∧ w.cell? ⟨b, off + i * 5 + 3, none⟩ = some (.string (bs i)) ∧ w.cell? ⟨b, off + i * 5 + 4, none⟩ = some (.string (ss i))) :
    Calls Tryz.prog 3 #[.int .i64 room, v] w fun e w' => e = .returned (.bool true) ∧ Below w.heap.size w w' := by
  subst hv
  have HB := Lib.hid (hbg w h)
  have HC := Lib.hid hc
  have HBL := Lib.hid hb
  have HAD := Lib.hid had
  clear hbg h hc hb had
  obtain ⟨z, hz0⟩ : ∃ z : Nat, (min (max (room : Int) 0) 1048576).toNat = z := ⟨_, rfl⟩
  have hz : z ≤ 1048576 := by omega
  have HZ := Lib.hid hz0
  clear hz0
  go_enter Tryz.func3, Tryz.ntmps3
  go_wp2_with fail
  refine HB.out.mono ?_
  rintro _ w1 ⟨rfl, hb1⟩
  have H1 := Lib.hid (Sp.of_below' hb1)
  clear hb1
  go_wp2_with fail
  refine (c_new room H1.out).mono ?_
  rintro _ w2 ⟨c0, rfl, h2⟩
  rw [HZ.out] at h2
  have H2 := Lib.hid h2
  clear h2
  go_wp2_with fail
  refine (r_new room H2.out).mono ?_
  rintro _ w3 ⟨d0, rfl, h3⟩
  rw [HZ.out] at h3
  have H3 := Lib.hid h3.swap
  clear h3
  go_wp2_with fail
  go_loopw [6, 7, 8, 9] (fun cv dv ov iv wr => ∃ k : Nat, k ≤ 40 ∧ iv = .int .i64 k ∧ ov = .bool true ∧ AllRel w z k cv dv wr) (fun _ _ _ iv _ => 40 - (intOf iv).toNat)
  case atStart => exact ⟨0, by omega, rfl, rfl, c0, d0, _, [], rfl, rfl, Lib.hid ⟨like_new z hz, Nat.le_refl _⟩, H3⟩
  case round =>
    obtain ⟨k, hk, rfl, rfl, c, d, st, l, rfl, rfl, HK, HS⟩ := hrel
    have hlk := HK.out.2
    by_cases hin : k < len ∧ k < 40
    · obtain ⟨h1, h2⟩ := hin
      obtain rfl := HAD.out (by omega)
      have hcl : ∀ p : Addr, p.block = b → wr.cell? p = w.cell? p := fun p hp => HS.out.bl.cell (by rw [hp]; exact HBL.out (by omega))
      obtain ⟨x0, x1, x2, x3, x4⟩ := HC.out k h1
      have y0 : wr.cell? ⟨b, off + k * 5, none⟩ = some (.int .i64 (ks k)) := (hcl _ rfl).trans x0
      have y1 : wr.cell? ⟨b, off + k * 5 + 1, none⟩ = some (.int .i64 (ns k)) := (hcl _ rfl).trans x1
      have y2 : wr.cell? ⟨b, off + k * 5 + 2, none⟩ = some (.string (es k)) := (hcl _ rfl).trans x2
      have y3 : wr.cell? ⟨b, off + k * 5 + 3, none⟩ = some (.string (bs k)) := (hcl _ rfl).trans x3
      have y4 : wr.cell? ⟨b, off + k * 5 + 4, none⟩ = some (.string (ss k)) := (hcl _ rfl).trans x4
      have j1 : (k : Int) < (len : Int) := by omega
      have j2 : (k : Int) < 40 := by omega
      clear hcl x0 x1 x2 x3 x4
      go_wp2_with fail
      refine (do_p HS.out HK.out.1 hz (by omega) _ _ _ _ _).mono ?_
      rintro _ w4 ⟨c4, d4, st4, l4, rfl, h4, k4, n4⟩
      have H4 := Lib.hid h4
      have K4 := Lib.hid k4
      clear h4 k4
      go_wp2_with fail
      refine (same_p H4.out K4.out hz (by omega)).mono ?_
      rintro _ w5 ⟨rfl, hb5⟩
      have H5 := Lib.hid (H4.out.below hb5)
      clear hb5
      go_wp2_with fail
      go_roundw
      case rel => exact ⟨k + 1, by omega, by go_num, rfl, c4, d4, st4, l4, rfl, rfl, Lib.hid ⟨K4.out, by omega⟩, H5⟩
      case measure => simp [intOf]; omega
    · have hx : ((k : Int) < (len : Int) ∧ ¬ (k : Int) < 40) ∨ ¬ (k : Int) < (len : Int) := by omega
      clear hin HC HBL HAD
      rcases hx with ⟨j1, j2⟩ | j1
      all_goals
        go_wp2_with fail
        refine (same_p HS.out HK.out.1 hz (by omega)).mono ?_
        rintro _ w5 ⟨rfl, hb5⟩
        have HE := Lib.hid (HS.out.below hb5).bl
        clear hb5
        go_wp2_with fail
        go_ret
        exact ⟨rfl, HE.out⟩

end Go.Proofs.YtaekieoingflaaaGreatDoor
