/-
  RollTear answers true: a tear leaves the elder chest.
-/
import Derived.Test.YtaekieoingflaaaGreatDoorRfD
import Derived.Test.YtaekieoingflaaaGreatDoorBegun3
namespace Go.Proofs.YtaekieoingflaaaGreatDoor
open Go.RowKit Go.Maps Go.Proofs.MapD Go.Proofs.Chest

/-- What the loop keeps. -/
def AllRel (w : World) (z k : Nat) (cv dv : Value) (wr : World) : Prop :=
  ∃ c d st l, cv = .pointer (some ⟨c, 0, none⟩) ∧ dv = .pointer (some ⟨d, 0, none⟩) ∧ Hid (Like z st l ∧ l.length ≤ k) ∧ Hid (Sp w wr [ch c st, rch d z l])

theorem Sp.of_below' {w0 w : World} (h : Below w0.heap.size w0 w) : Sp w0 w [] := ⟨⟨[], rfl, by simp⟩, h⟩

theorem Sp.rot4 {w0 w : World} {a b c d : It} {L : List It} (h : Sp w0 w (a :: b :: c :: d :: L)) : Sp w0 w (d :: a :: b :: c :: L) := h.perm (List.perm_middle (l₁ := [a, b, c]))

set_option maxRecDepth 100000 in
set_option maxHeartbeats 8000000 in
theorem rollTear_walk (v : Value) (len : Nat) (ks ns : Nat → Int) (es bs ss : Nat → ByteArray) (b off cap : Nat) (ad : Option Addr) (hv : v = .slice ad len cap) (had : 0 < len → ad = some ⟨b, off, none⟩)
    (n m : Int) (w : World) (hbg : BegunTrue3) (h : LibAt w) (hl : len ≤ 9223372036854775807) (hb : 0 < len → b < w.heap.size)
    (hc : ∀ i, i < len → w.cell? ⟨b, off + i * 5, none⟩ = some (.int .i64 (ks i)) ∧ w.cell? ⟨b, off + i * 5 + 1, none⟩ = some (.int .i64 (ns i)) ∧ w.cell? ⟨b, off + i * 5 + 2, none⟩ = some (.string (es i)) ∧ w.cell? ⟨b, off + i * 5 + 3, none⟩ = some (.string (bs i)) ∧ w.cell? ⟨b, off + i * 5 + 4, none⟩ = some (.string (ss i))) :
    Calls Tryz.prog 4 #[v, .int .i64 n, .int .i64 m] w fun e w' => e = .returned (.bool true) ∧ Below w.heap.size w w' := by
  subst hv
  have HB := Lib.hid (hbg w h)
  have HC := Lib.hid hc
  have HBL := Lib.hid hb
  have HAD := Lib.hid had
  clear hbg h hc hb had
  obtain ⟨z, hz0⟩ : ∃ z : Nat, (min (max (1000 : Int) 0) 1048576).toNat = z := ⟨_, rfl⟩
  have hz : z ≤ 1048576 := by omega
  have HZ := Lib.hid hz0
  clear hz0
  go_enter Tryz.func4, Tryz.ntmps4
  go_wp2_with fail
  refine HB.out.mono ?_
  rintro _ w1 ⟨rfl, hb1⟩
  have H1 := Lib.hid (Sp.of_below' hb1)
  clear hb1
  go_wp2_with fail
  refine (c_new 1000 H1.out).mono ?_
  rintro _ w2 ⟨c0, rfl, h2⟩
  rw [HZ.out] at h2
  have H2 := Lib.hid h2
  clear h2
  go_wp2_with fail
  refine (r_new 1000 H2.out).mono ?_
  rintro _ w3 ⟨d0, rfl, h3⟩
  rw [HZ.out] at h3
  have H3 := Lib.hid h3.swap
  clear h3
  go_wp2_with fail
  go_loopw [8, 9, 10, 11] (fun cv dv ov iv wr => ∃ k : Nat, k ≤ 25 ∧ iv = .int .i64 k ∧ ov = .bool true ∧ AllRel w z k cv dv wr) (fun _ _ _ iv _ => 25 - (intOf iv).toNat)
  case atStart => exact ⟨0, by omega, rfl, rfl, c0, d0, _, [], rfl, rfl, Lib.hid ⟨like_new z hz, Nat.le_refl _⟩, H3⟩
  case round =>
    obtain ⟨k, hk, rfl, rfl, c, d, st, l, rfl, rfl, HK, HS⟩ := hrel
    have hlk := HK.out.2
    by_cases hin : k < len ∧ k < 25
    · obtain ⟨h1, h2⟩ := hin
      obtain rfl := HAD.out (by omega)
      have hcl : ∀ p : Addr, p.block = b → wr.cell? p = w.cell? p := fun p hp => HS.out.bl.cell (by rw [hp]; exact HBL.out (by omega))
      obtain ⟨x0, x1, x2, x3, x4⟩ := HC.out k h1
      have y0 : wr.cell? ⟨b, off + k * 5, none⟩ = some (.int .i64 (ks k)) := (hcl _ rfl).trans x0
      have y1 : wr.cell? ⟨b, off + k * 5 + 1, none⟩ = some (.int .i64 (ns k)) := (hcl _ rfl).trans x1
      have y2 : wr.cell? ⟨b, off + k * 5 + 2, none⟩ = some (.string (es k)) := (hcl _ rfl).trans x2
      have y3 : wr.cell? ⟨b, off + k * 5 + 3, none⟩ = some (.string (bs k)) := (hcl _ rfl).trans x3
      have y4 : wr.cell? ⟨b, off + k * 5 + 4, none⟩ = some (.string (ss k)) := (hcl _ rfl).trans x4
      have j1 : (k : Int) < (len : Int) := by omega
      have j2 : (k : Int) < 25 := by omega
      clear hcl x0 x1 x2 x3 x4
      go_wp2_with fail
      refine (do_p HS.out HK.out.1 hz (by omega) _ _ _ _ _).mono ?_
      rintro _ w4 ⟨c4, d4, st4, l4, rfl, h4, k4, n4⟩
      have H4 := Lib.hid h4
      have K4 := Lib.hid k4
      clear h4 k4
      go_wp2_with fail

      go_roundw
      case rel => exact ⟨k + 1, by omega, by go_num, rfl, c4, d4, st4, l4, rfl, rfl, Lib.hid ⟨K4.out, by omega⟩, H4⟩
      case measure => simp [intOf]; omega
    · have hx : ((k : Int) < (len : Int) ∧ ¬ (k : Int) < 25) ∨ ¬ (k : Int) < (len : Int) := by omega
      clear hin HC HBL HAD
      rcases hx with ⟨j1, j2⟩ | j1
      all_goals
        have hll : l.length = st.l.length := HK.out.1.len
        have hst : st.l.length ≤ 1000000 := by omega
        have htz : total l ≤ z := by have := HK.out.1.room; have := HK.out.1.total; omega
        have hpr : ∀ e ∈ l, e.2.p ≤ e.2.t.size := fun e he => HK.out.1.wf.pressed e (HK.out.1.perm.mem_iff.1 he)
        have KN := Lib.hid (like_tear HK.out.1 n)
        have KM := Lib.hid (like_tear HK.out.1 m)
        have KA : Hid (Like z (tear (tear st n) m) (tRolls l n)) := Lib.hid (by
          have := like_tear (like_tear HK.out.1 n) m
          rw [tRolls_again hpr] at this
          exact this)
        have ln : (tRolls l n).length ≤ 900000 := by rw [KN.out.len]; have := len_tear st n; omega
        have lm : (tRolls l m).length ≤ 900000 := by rw [KM.out.len]; have := len_tear st m; omega
        have la : (tear st n).l.length ≤ 1000000 := by have := len_tear st n; omega
        have HPR := Lib.hid hpr
        clear hpr hll
        go_wp2_with fail
        refine (c_tear HS.out hst n).mono ?_
        rintro _ w5 ⟨a1, rfl, h5⟩
        have H5 := Lib.hid h5.rot
        clear h5
        go_wp2_with fail
        refine (r_tear H5.out HPR.out (by omega) (by omega) n).mono ?_
        rintro _ w6 ⟨d1, rfl, h6⟩
        have H6 := Lib.hid h6.rot
        clear h6
        go_wp2_with fail
        refine (same_p H6.out KN.out hz ln).mono ?_
        rintro _ w7 ⟨rfl, hb7⟩
        have H7 := Lib.hid (H6.out.below hb7).swap.drop.rot
        clear hb7
        go_wp2_with fail
        refine (c_tear H7.out hst m).mono ?_
        rintro _ w8 ⟨c2, rfl, h8⟩
        have H8 := Lib.hid h8.rot4
        clear h8
        go_wp2_with fail
        refine (r_tear H8.out HPR.out (by omega) (by omega) m).mono ?_
        rintro _ w9 ⟨d2, rfl, h9⟩
        have H9 := Lib.hid h9.rot
        clear h9
        go_wp2_with fail
        refine (same_p H9.out KM.out hz lm).mono ?_
        rintro _ w10 ⟨rfl, hb10⟩
        have H10 := Lib.hid (H9.out.below hb10).drop.drop.rot
        clear hb10
        go_wp2_with fail
        refine (c_tear H10.out la m).mono ?_
        rintro _ w11 ⟨a2, rfl, h11⟩
        have H11 := Lib.hid h11.rot
        clear h11
        go_wp2_with fail
        refine (r_tear H11.out HPR.out (by omega) (by omega) n).mono ?_
        rintro _ w12 ⟨d3, rfl, h12⟩
        have H12 := Lib.hid h12.rot
        clear h12
        go_wp2_with fail
        refine (same_p H12.out KA.out hz ln).mono ?_
        rintro _ w13 ⟨rfl, hb13⟩
        have H13 := Lib.hid (H12.out.below hb13).drop.drop.rot
        clear hb13
        go_wp2_with fail
        refine (same_p H13.out HK.out.1 hz (by omega)).mono ?_
        rintro _ w14 ⟨rfl, hb14⟩
        have HE := Lib.hid (H13.out.below hb14).bl
        clear hb14
        go_wp2_with fail
        go_ret
        exact ⟨rfl, HE.out⟩

end Go.Proofs.YtaekieoingflaaaGreatDoor
