/-
 Contracts of the program, and what they rest on.
-/
import Derived.Test.YtlajbminbdhpaaaGreatDoorM11
import Derived.Test.YtlajbminbdhpaaaGreatDoorM08
import Derived.Test.YtlajbminbdhpaaaGreatDoorRMark
import Derived.Test.YtlajbminbdhpaaaGreatDoorRTomG
import Derived.Test.YtlajbminbdhpaaaGreatDoorRTomF
import Derived.Test.YtlajbminbdhpaaaGreatDoorLeA
import Derived.Test.YtlajbminbdhpaaaGreatDoorRefTa
import Derived.Test.YtlajbminbdhpaaaGreatDoorLawTomeOwn
import Derived.Test.YtlajbminbdhpaaaGreatDoorRefTb
import Derived.Test.YtlajbminbdhpaaaGreatDoorRefTc
import Derived.Test.YtlajbminbdhpaaaGreatDoorRefTd
import Derived.Test.YtlajbminbdhpaaaGreatDoorRefTe
import Derived.Test.YtlajbminbdhpaaaGreatDoorHeldS
import Derived.Test.YtlajbminbdhpaaaGreatDoorTallR
set_option maxRecDepth 100000
set_option maxHeartbeats 16000000
namespace Go.Proofs.YtlajbminbdhpaaaGreatDoor
open Go.RowKit
theorem vc_body {w : World} {b : Nat} {x : Ve} (h : VC3 w b x) (B : ByteArray) : VC3 (w.setCell ⟨b, 2, none⟩ (.string B)) b ⟨x.ver, x.gone, B⟩ := by
 obtain ⟨⟨h0, h1, h2⟩, f0, f1, f2⟩ := h
 refine ⟨⟨?_, ?_, ?_⟩, ?_, ?_, ?_⟩ <;> (try dsimp only) <;> go_simp
theorem now_body {l : List Ve} (h : ∀ y ∈ l, y.body.size ≤ 302) : (nowE l).1.body.size ≤ 302 := by
 unfold nowE
 cases hl : l.getLast? with
 | none => exact Nat.zero_le _
 | some y => exact h y (List.mem_of_getLast? hl)
theorem holds_own (l : List Ve) : holdsE l 2 (tagS (nowE l).1.body) = (nowE l).2 := by
 unfold holdsE
 simp
theorem tomeAll_walk (key : ByteArray) (v : Value) (l0 : List Ve) (x0 : Ve) (n cond : Int) (tag : ByteArray) (w : World) (hbg : Begun5True) (h : LibAt w) (hv : VsAt w v l0) (hn : l0.length ≤ 9223372036854775807) :
  Calls Tryz.prog 3 #[.agg #[.string key, v], .agg #[.int .i64 x0.ver, .bool x0.gone, .string x0.body], .int .i64 n, .int .i64 cond, .string tag] w fun e w' => e = .returned (.bool true) ∧ Below w.heap.size w w' := by
 obtain ⟨ad, cap, rfl, _⟩ := hv.shape
 have HB0 := Lib.hid (w3v_below w key ad l0.length cap x0 24 26)
 have HE0 := Lib.hid (w3v_ec w key ad l0.length cap x0 24 26)
 have HX0 := Lib.hid (w3v_vc w key ad l0.length cap x0 24 26)
 unfold w3v at HB0 HE0 HX0
 have HV0 := Lib.hid (hv.below HB0.out)
 have HB := Lib.hid (hbg _ (h.below HB0.out))
 have HL := Lib.hid h
 have C1 := Lib.hid (cut_any x0.body 302)
 have hbs := cutS_size x0.body 302
 obtain ⟨xv, xg, xb⟩ := x0
 dsimp only at C1 hbs HB0 HE0 HX0 HV0 HB ⊢
 generalize cutS xb 302 = BD at *
 clear hbg h hv
 go_enter Tryz.func3, Tryz.ntmps3
 go_wp2_with fail
 refine HB.out.mono ?_
 rintro _ w0 ⟨rfl, hb1⟩
 have HE1 := Lib.hid (HE0.out.below hb1)
 have HX1 := Lib.hid (HX0.out.below hb1)
 have HV1 := Lib.hid (HV0.out.below hb1)
 have HB1 := Lib.hid (HB0.out.trans (hb1.mono HB0.out.size))
 clear hb1 HE0 HX0 HV0 HB0 HB
 have hdr : Below w0.heap.size w0 w0.drew := (Below.refl w0.heap.size w0).drew
 have HEd := Lib.hid (HE1.out.below hdr)
 have HXd := Lib.hid (HX1.out.below hdr)
 have HVd := Lib.hid (HV1.out.below hdr)
 have HBd := Lib.hid (HB1.out.trans (hdr.mono HB1.out.size))
 have hS0 := And.intro HEd.out.1 HXd.out.1.2.2
 clear HE1 HX1 HV1 HB1 hdr
 go_wp2_with fail
 refine wp_region_D (S := fun L Y => (L.getD 5 false = false → (Y.cell? ⟨w.heap.size, 0, none⟩ = some (.string key) ∧ Y.cell? ⟨w.heap.size, 1, none⟩ = some (.slice ad l0.length cap))) ∧ (L.getD 7 false = false → Y.cell? ⟨w.heap.size + 1, 2, none⟩ = some (.string xb))) (by kernel_rfl) ⟨fun _ => hS0.1, fun _ => hS0.2⟩ (fun hS0 => ?_)
 refine wpAnyD_take (i := 0) (v := Value.agg #[.string key, .slice ad l0.length cap]) rfl (by kernel_rfl) (by kernel_rfl) (by kernel_rfl) (by kernel_rfl) (fun _ _ _ h => h) (fun L w => by simp only [getD_set_ne false (by decide : (0 : Nat) ≠ 5), getD_set_ne false (by decide : (0 : Nat) ≠ 7)]) (by kernel_rfl) hS0 ⟨by rfl, fun L w' hL hD hS => ?_⟩ (fun hS0 => ?_)
 ·obtain ⟨s0, s1⟩ := hS.1 (blocked (j := 5) hD hL (by kernel_rfl))
  refine .inl ?_
  go_simp
 refine wpAnyD_take (i := 2) (v := Value.pointer (some ⟨w.heap.size + 1, 2, none⟩)) rfl (by kernel_rfl) (by kernel_rfl) (by kernel_rfl) (by kernel_rfl) (fun _ _ _ h => h) (fun L w => by simp only [getD_set_ne false (by decide : (2 : Nat) ≠ 5), getD_set_ne false (by decide : (2 : Nat) ≠ 7)]) (by kernel_rfl) hS0 ⟨by rfl, fun L w' hL hD hS => ?_⟩ (fun hS0 => ?_)
 ·refine .inl ?_
  go_simp
 refine wpAnyD_take (i := 3) (v := Value.string xb) rfl (by kernel_rfl) (by kernel_rfl) (by kernel_rfl) (by kernel_rfl) (fun _ _ _ h => h) (fun L w => by simp only [getD_set_ne false (by decide : (3 : Nat) ≠ 5), getD_set_ne false (by decide : (3 : Nat) ≠ 7)]) (by kernel_rfl) hS0 ⟨by rfl, fun L w' hL hD hS => ?_⟩ (fun hS0 => ?_)
 ·have s0 := hS.2 (blocked (j := 7) hD hL (by kernel_rfl))
  refine .inl ?_
  go_simp
 simp only [List.getElem_toArray, List.getElem_cons_succ, List.getElem_cons_zero, Act.put, List.setIfInBounds_toArray, List.set_cons_zero, List.set_cons_succ]
 refine wpAnyD_one (i := 1) (by kernel_rfl) rfl (by kernel_rfl) (fun K hK => ?_)
 simp only [List.getElem_toArray, List.getElem_cons_succ, List.getElem_cons_zero]
 go_simp
 refine (lentry_p key _ l0 _ HVd.out hn).mono ?_
 rintro _ w1 ⟨ae, ce, rfl, hoe, hb2⟩
 have hlen := cutL_len l0
 have htw := cutL_twice l0
 have hkt := cutS_twice key 42
 have hbl := cutL_bodies l0
 generalize cutL l0 = l at *
 have hks : (cutS key 42).size ≤ 1000000 := by have := cutS_size key 42; omega
 generalize cutS key 42 = KK at *
 have HE2 := Lib.hid (HEd.out.below hb2)
 have HX2 := Lib.hid (HXd.out.below hb2)
 have HB2 := Lib.hid (HBd.out.trans (hb2.mono HBd.out.size))
 have HOE := Lib.hid (And.intro hoe (And.intro hlen (And.intro htw (And.intro hkt (And.intro hbl HXd.out.lt)))))
 refine hK.out _ _ ⟨fun _ => HE2.out.1, fun _ => HX2.out.1.2.2⟩ (fun hS0 => ?_)
 clear hK hb2 hoe htw hkt hbl HEd HXd HVd HBd
 refine wpAnyD_take (i := 4) (v := Value.string BD) rfl (by kernel_rfl) (by kernel_rfl) (by kernel_rfl) (by kernel_rfl) (fun _ _ _ h => h) (fun L w => by simp only [getD_set_ne false (by decide : (4 : Nat) ≠ 5), getD_set_ne false (by decide : (4 : Nat) ≠ 7)]) (by kernel_rfl) hS0 ⟨by rfl, fun L w' hL hD hS => ?_⟩ (fun hS0 => ?_)
 ·refine .inr ⟨_, _, by first | rfl | (go_simp; rfl) | go_simp, (C1.out w').mono (fun e w'' h => ⟨h.1, h.2⟩)⟩
 obtain ⟨⟨c0, c1⟩, f0, f1⟩ := HE2.out
 have hW2 : ∀ g, g ≠ w.heap.size → ((w1.setCell ⟨w.heap.size, 0, none⟩ (.string KK)).setCell ⟨w.heap.size, 1, none⟩ (.slice ae l.length ce)).heap[g]? = w1.heap[g]? := fun g hg => by
  rw [Below.heap_setCell _ _ _ _ (by simpa using hg), Below.heap_setCell _ _ _ _ (by simpa using hg)]
 have HE3 := Lib.hid (ec_put2 HE2.out KK (.slice ae l.length ce))
 have HX3 := Lib.hid (HX2.out.kept (hW2 _ (by omega)))
 have HV3 := Lib.hid (HOE.out.1.kept (fun g hg => hW2 g (by have h1 := (HOE.out.1.lt hg).1; have h2 := HOE.out.2.2.2.2.2; omega)))
 have HB3 := Lib.hid ((HB2.out.setCell (p := ⟨w.heap.size, 0, none⟩) (Nat.le_refl _) (.string KK)).setCell (p := ⟨w.heap.size, 1, none⟩) (Nat.le_refl _) (.slice ae l.length ce))
 refine wpAnyD_one (i := 5) (by kernel_rfl) rfl (by kernel_rfl) (fun K hK => ?_)
 simp only [List.getElem_toArray, List.getElem_cons_succ, List.getElem_cons_zero]
 go_simp
 refine hK.out _ _ ⟨fun h => (by cases h), fun _ => HX3.out.1.2.2⟩ (fun hS0 => ?_)
 clear hK c0 c1 f0 f1 HE2 HX2 HB2 hW2
 generalize (w1.setCell ⟨w.heap.size, 0, none⟩ (.string KK)).setCell ⟨w.heap.size, 1, none⟩ (.slice ae l.length ce) = W2 at *
 refine wpAnyD_take (i := 6) (v := Value.pointer (some ⟨w.heap.size + 1, 2, none⟩)) rfl (by kernel_rfl) (by kernel_rfl) (by kernel_rfl) (by kernel_rfl) (fun _ _ _ h => h) (fun L w => by simp only [getD_set_ne false (by decide : (6 : Nat) ≠ 5), getD_set_ne false (by decide : (6 : Nat) ≠ 7)]) (by kernel_rfl) hS0 ⟨by rfl, fun L w' hL hD hS => ?_⟩ (fun hS0 => ?_)
 ·refine .inl ?_
  go_simp
 simp only [List.getElem_toArray, List.getElem_cons_succ, List.getElem_cons_zero, Act.put, List.setIfInBounds_toArray, List.set_cons_zero, List.set_cons_succ]
 obtain ⟨⟨c0, c1, c2⟩, f0, f1, f2⟩ := HX3.out
 have hW3 : ∀ g, g ≠ w.heap.size + 1 → (W2.setCell ⟨w.heap.size + 1, 2, none⟩ (.string BD)).heap[g]? = W2.heap[g]? := fun g hg => Below.heap_setCell _ _ _ _ (by simpa using hg)
 have HE4 := Lib.hid (HE3.out.kept (hW3 _ (by omega)))
 have HX4 := Lib.hid (vc_body HX3.out BD)
 have HV4 := Lib.hid ((HV3.out.kept (fun g hg => hW3 g (by have h1 := (HV3.out.lt hg).1; have h2 := HOE.out.2.2.2.2.2; omega))).at)
 have HB4 := Lib.hid (HB3.out.setCell (p := ⟨w.heap.size + 1, 2, none⟩) (by simp) (.string BD))
 have HZ := Lib.hid HOE.out.2
 refine wpAnyD_one (i := 7) (by kernel_rfl) rfl (by kernel_rfl) (fun K hK => ?_)
 simp only [List.getElem_toArray, List.getElem_cons_succ, List.getElem_cons_zero]
 go_simp
 refine hK.out _ _ ⟨fun h => (by cases h), fun h => (by cases h)⟩ (fun hS0 => ?_)
 clear hK hS0 c0 c1 c2 f0 f1 f2 HE3 HX3 HV3 HB3 hW3 HOE C1
 refine wpAnyD_done (by kernel_rfl) ?_ _
 generalize W2.setCell ⟨w.heap.size + 1, 2, none⟩ (.string BD) = W4 at *
 dsimp only at HX4
 have hl14 : l.length ≤ 1000000 := by omega
 have hLE := lentry_p KK _ l W4 HV4.out (by omega)
 rw [HZ.out.2.1, HZ.out.2.2.1] at hLE
 obtain ⟨⟨c0, c1⟩, -⟩ := HE4.out
 go_wp2_with fail
 refine (hLE).mono ?_
 rintro _ w11 ⟨at', ct, rfl, hot, hb⟩
 have hbb : Below W4.heap.size W4 (w11.alloc (.cells #[.string KK, .slice at' l.length ct] 24)) := hb.alloc hb.size _
 have hbk : Below w11.heap.size w11 (w11.alloc (.cells #[.string KK, .slice at' l.length ct] 24)) := (Below.refl _ _).alloc (Nat.le_refl _) _
 have HE4_1 := Lib.hid (HE4.out.below hbb)
 have HX4_1 := Lib.hid (HX4.out.below hbb)
 have HV4_1 := Lib.hid (HV4.out.below hbb)
 have HB4_1 := Lib.hid (HB4.out.trans (hbb.mono HB4.out.size))
 have HT_1 := Lib.hid (EC.new w11 KK at' l.length ct 24)
 have HVT_1 := Lib.hid (hot.at.below hbk)
 clear hb hbb hbk c0 c1 HE4 HX4 HV4 HB4 hot hLE
 have HNW := Lib.hid (fun W (hW : VsAt W (.slice ae l.length ce) l) => now_p KK _ l W hW hl14)
 have HRN := Lib.hid (fun W (hW : VsAt W (.slice ae l.length ce) l) => rnow_p KK _ l W hW hl14)
 unfold vtup at HNW HRN
 obtain ⟨y, hy⟩ : ∃ y, nowE l = y := ⟨_, rfl⟩
 have HY := Lib.hid hy
 rw [hy] at HNW HRN
 clear hy
 obtain ⟨y, yb⟩ := y
 dsimp only at HNW HRN
 obtain ⟨⟨c0, c1⟩, -⟩ := HE4_1.out
 go_wp2_with fail
 generalize hWW : w11.alloc (.cells #[.string KK, .slice at' l.length ct] 24) = V2 at *
 generalize w11.heap.size = T at *
 clear hWW
 refine (HNW.out V2 HV4_1.out).mono ?_
 rintro _ w12 ⟨rfl, hb⟩
 have hbb : Below V2.heap.size V2 (w12.alloc (.cells #[.int .i64 y.ver, .bool y.gone, .string y.body] 26)) := hb.alloc hb.size _
 have hbk : Below w12.heap.size w12 (w12.alloc (.cells #[.int .i64 y.ver, .bool y.gone, .string y.body] 26)) := (Below.refl _ _).alloc (Nat.le_refl _) _
 have HE4_2 := Lib.hid (HE4_1.out.below hbb)
 have HX4_2 := Lib.hid (HX4_1.out.below hbb)
 have HV4_2 := Lib.hid (HV4_1.out.below hbb)
 have HB4_2 := Lib.hid (HB4_1.out.trans (hbb.mono HB4_1.out.size))
 have HT_2 := Lib.hid (HT_1.out.below hbb)
 have HVT_2 := Lib.hid (HVT_1.out.below hbb)
 have HN_2 := Lib.hid (VC3.new w12 y 26)
 clear hb hbb hbk c0 c1 HE4_1 HX4_1 HV4_1 HB4_1 HT_1 HVT_1
 obtain ⟨⟨c0, c1⟩, -⟩ := HE4_2.out
 go_wp2_with fail
 generalize hWW : w12.alloc (.cells #[.int .i64 y.ver, .bool y.gone, .string y.body] 26) = V3 at *
 generalize w12.heap.size = N1 at *
 clear hWW
 refine (HRN.out V3 HV4_2.out).mono ?_
 rintro _ w13 ⟨rfl, hb⟩
 have hbb : Below V3.heap.size V3 (w13.alloc (.cells #[.int .i64 y.ver, .bool y.gone, .string y.body] 26)) := hb.alloc hb.size _
 have hbk : Below w13.heap.size w13 (w13.alloc (.cells #[.int .i64 y.ver, .bool y.gone, .string y.body] 26)) := (Below.refl _ _).alloc (Nat.le_refl _) _
 have HE4_3 := Lib.hid (HE4_2.out.below hbb)
 have HX4_3 := Lib.hid (HX4_2.out.below hbb)
 have HV4_3 := Lib.hid (HV4_2.out.below hbb)
 have HB4_3 := Lib.hid (HB4_2.out.trans (hbb.mono HB4_2.out.size))
 have HT_3 := Lib.hid (HT_2.out.below hbb)
 have HVT_3 := Lib.hid (HVT_2.out.below hbb)
 have HN_3 := Lib.hid (HN_2.out.below hbb)
 have HM_3 := Lib.hid (VC3.new w13 y 26)
 clear hb hbb hbk c0 c1 HE4_2 HX4_2 HV4_2 HB4_2 HT_2 HVT_2 HN_2 HNW HRN
 have HAT := Lib.hid (fun W (hW : VsAt W (.slice ae l.length ce) l) => at_p KK _ l n W hW hl14)
 have HRT := Lib.hid (fun W (hW : VsAt W (.slice ae l.length ce) l) => rat_p KK _ l n W hW hl14)
 unfold vtup at HAT
 obtain ⟨z, hz⟩ : ∃ z, atE l n = z := ⟨_, rfl⟩
 obtain ⟨q, hq⟩ : ∃ q, ratE l n = q := ⟨_, rfl⟩
 have HZQ := Lib.hid (And.intro hz hq)
 rw [hz] at HAT
 rw [hq] at HRT
 clear hz hq
 obtain ⟨z, zb⟩ := z
 obtain ⟨q, qb⟩ := q
 dsimp only at HAT HRT
 obtain ⟨⟨c0, c1⟩, -⟩ := HE4_3.out
 go_wp2_with fail
 generalize hWW : w13.alloc (.cells #[.int .i64 y.ver, .bool y.gone, .string y.body] 26) = V4 at *
 generalize w13.heap.size = N2 at *
 clear hWW
 refine (HAT.out V4 HV4_3.out).mono ?_
 rintro _ w14 ⟨rfl, hb⟩
 have hbb : Below V4.heap.size V4 (w14.alloc (.cells #[.int .i64 z.ver, .bool z.gone, .string z.body] 26)) := hb.alloc hb.size _
 have hbk : Below w14.heap.size w14 (w14.alloc (.cells #[.int .i64 z.ver, .bool z.gone, .string z.body] 26)) := (Below.refl _ _).alloc (Nat.le_refl _) _
 have HE4_4 := Lib.hid (HE4_3.out.below hbb)
 have HX4_4 := Lib.hid (HX4_3.out.below hbb)
 have HV4_4 := Lib.hid (HV4_3.out.below hbb)
 have HB4_4 := Lib.hid (HB4_3.out.trans (hbb.mono HB4_3.out.size))
 have HT_4 := Lib.hid (HT_3.out.below hbb)
 have HVT_4 := Lib.hid (HVT_3.out.below hbb)
 have HN_4 := Lib.hid (HN_3.out.below hbb)
 have HM_4 := Lib.hid (HM_3.out.below hbb)
 have HA_4 := Lib.hid (VC3.new w14 z 26)
 clear hb hbb hbk c0 c1 HE4_3 HX4_3 HV4_3 HB4_3 HT_3 HVT_3 HN_3 HM_3
 obtain ⟨⟨c0, c1⟩, -⟩ := HE4_4.out
 go_wp2_with fail
 generalize hWW : w14.alloc (.cells #[.int .i64 z.ver, .bool z.gone, .string z.body] 26) = V5 at *
 generalize w14.heap.size = AT at *
 clear hWW
 refine (HRT.out V5 HV4_4.out).mono ?_
 rintro _ w15 ⟨rfl, hb⟩
 have hbb := hb
 have HE4_5 := Lib.hid (HE4_4.out.below hbb)
 have HX4_5 := Lib.hid (HX4_4.out.below hbb)
 have HV4_5 := Lib.hid (HV4_4.out.below hbb)
 have HB4_5 := Lib.hid (HB4_4.out.trans (hbb.mono HB4_4.out.size))
 have HT_5 := Lib.hid (HT_4.out.below hbb)
 have HVT_5 := Lib.hid (HVT_4.out.below hbb)
 have HN_5 := Lib.hid (HN_4.out.below hbb)
 have HM_5 := Lib.hid (HM_4.out.below hbb)
 have HA_5 := Lib.hid (HA_4.out.below hbb)
 clear hb hbb c0 c1 HE4_4 HX4_4 HV4_4 HB4_4 HT_4 HVT_4 HN_4 HM_4 HA_4 HAT HRT
 have HAD := Lib.hid (fun W (hW : VsAt W (.slice ae l.length ce) l) => add_p KK _ l ⟨xv, xg, BD⟩ W hW hl14)
 have HRA := Lib.hid (fun W (hW : VsAt W (.slice ae l.length ce) l) => radd_p KK _ l ⟨xv, xg, BD⟩ W hW hl14)
 have HPU := Lib.hid (fun W (hW : VsAt W (.slice ae l.length ce) l) => tpurge_p KK _ l n W hW hl14)
 have HRP := Lib.hid (fun W (hW : VsAt W (.slice ae l.length ce) l) => rpurge_p KK _ l n W hW hl14)
 have hla := addE_len l ⟨xv, xg, BD⟩
 have hlp := purgeE_len l n
 generalize addE l ⟨xv, xg, BD⟩ = ra at *
 generalize purgeE l n = rp at *
 obtain ⟨la, oka⟩ := ra
 obtain ⟨lp, okp⟩ := rp
 unfold EntAns at HAD HPU
 unfold REnt at HRA HRP
 dsimp only at HAD HRA HPU HRP hla hlp
 obtain ⟨⟨c0, c1⟩, -⟩ := HE4_5.out
 obtain ⟨⟨x0, x1, x2⟩, -⟩ := HX4_5.out
 go_wp2_with fail
 refine (HAD.out w15 HV4_5.out).mono ?_
 rintro _ w16 ⟨aa, ca, rfl, hoo, hb⟩
 have hbb : Below w15.heap.size w15 (w16.alloc (.cells #[.string KK, .slice aa la.length ca] 24)) := hb.alloc hb.size _
 have hbk : Below w16.heap.size w16 (w16.alloc (.cells #[.string KK, .slice aa la.length ca] 24)) := (Below.refl _ _).alloc (Nat.le_refl _) _
 have HE4_6 := Lib.hid (HE4_5.out.below hbb)
 have HX4_6 := Lib.hid (HX4_5.out.below hbb)
 have HV4_6 := Lib.hid (HV4_5.out.below hbb)
 have HB4_6 := Lib.hid (HB4_5.out.trans (hbb.mono HB4_5.out.size))
 have HT_6 := Lib.hid (HT_5.out.below hbb)
 have HVT_6 := Lib.hid (HVT_5.out.below hbb)
 have HN_6 := Lib.hid (HN_5.out.below hbb)
 have HM_6 := Lib.hid (HM_5.out.below hbb)
 have HA_6 := Lib.hid (HA_5.out.below hbb)
 have HF_6 := Lib.hid (EC.new w16 KK aa la.length ca 24)
 have HVF_6 := Lib.hid (hoo.at.below hbk)
 clear hb hbb hbk c0 c1 x0 x1 x2 HE4_5 HX4_5 HV4_5 HB4_5 HT_5 HVT_5 HN_5 HM_5 HA_5 hoo HAD
 obtain ⟨⟨c0, c1⟩, -⟩ := HE4_6.out
 obtain ⟨⟨x0, x1, x2⟩, -⟩ := HX4_6.out
 go_wp2_with fail
 generalize hWW : w16.alloc (.cells #[.string KK, .slice aa la.length ca] 24) = V7 at *
 generalize w16.heap.size = FA at *
 clear hWW
 refine (HRA.out V7 HV4_6.out).mono ?_
 rintro _ w17 ⟨ab, cb, rfl, hoo, hb⟩
 have hbb : Below V7.heap.size V7 (w17.alloc (.cells #[.string KK, .slice ab la.length cb] 24)) := hb.alloc hb.size _
 have hbk : Below w17.heap.size w17 (w17.alloc (.cells #[.string KK, .slice ab la.length cb] 24)) := (Below.refl _ _).alloc (Nat.le_refl _) _
 have HE4_7 := Lib.hid (HE4_6.out.below hbb)
 have HX4_7 := Lib.hid (HX4_6.out.below hbb)
 have HV4_7 := Lib.hid (HV4_6.out.below hbb)
 have HB4_7 := Lib.hid (HB4_6.out.trans (hbb.mono HB4_6.out.size))
 have HT_7 := Lib.hid (HT_6.out.below hbb)
 have HVT_7 := Lib.hid (HVT_6.out.below hbb)
 have HN_7 := Lib.hid (HN_6.out.below hbb)
 have HM_7 := Lib.hid (HM_6.out.below hbb)
 have HA_7 := Lib.hid (HA_6.out.below hbb)
 have HF_7 := Lib.hid (HF_6.out.below hbb)
 have HVF_7 := Lib.hid (HVF_6.out.below hbb)
 have HG_7 := Lib.hid (EC.new w17 KK ab la.length cb 24)
 have HVG_7 := Lib.hid (hoo.below hbk)
 clear hb hbb hbk c0 c1 x0 x1 x2 HE4_6 HX4_6 HV4_6 HB4_6 HT_6 HVT_6 HN_6 HM_6 HA_6 HF_6 HVF_6 hoo HRA
 obtain ⟨⟨c0, c1⟩, -⟩ := HE4_7.out
 go_wp2_with fail
 generalize hWW : w17.alloc (.cells #[.string KK, .slice ab la.length cb] 24) = V8 at *
 generalize w17.heap.size = GA at *
 clear hWW
 refine (HPU.out V8 HV4_7.out).mono ?_
 rintro _ w18 ⟨ac, cc, rfl, hoo, hb⟩
 have hbb : Below V8.heap.size V8 (w18.alloc (.cells #[.string KK, .slice ac lp.length cc] 24)) := hb.alloc hb.size _
 have hbk : Below w18.heap.size w18 (w18.alloc (.cells #[.string KK, .slice ac lp.length cc] 24)) := (Below.refl _ _).alloc (Nat.le_refl _) _
 have HE4_8 := Lib.hid (HE4_7.out.below hbb)
 have HX4_8 := Lib.hid (HX4_7.out.below hbb)
 have HV4_8 := Lib.hid (HV4_7.out.below hbb)
 have HB4_8 := Lib.hid (HB4_7.out.trans (hbb.mono HB4_7.out.size))
 have HT_8 := Lib.hid (HT_7.out.below hbb)
 have HVT_8 := Lib.hid (HVT_7.out.below hbb)
 have HN_8 := Lib.hid (HN_7.out.below hbb)
 have HM_8 := Lib.hid (HM_7.out.below hbb)
 have HA_8 := Lib.hid (HA_7.out.below hbb)
 have HF_8 := Lib.hid (HF_7.out.below hbb)
 have HVF_8 := Lib.hid (HVF_7.out.below hbb)
 have HG_8 := Lib.hid (HG_7.out.below hbb)
 have HVG_8 := Lib.hid (HVG_7.out.below hbb)
 have HH_8 := Lib.hid (EC.new w18 KK ac lp.length cc 24)
 have HVH_8 := Lib.hid (hoo.at.below hbk)
 clear hb hbb hbk c0 c1 HE4_7 HX4_7 HV4_7 HB4_7 HT_7 HVT_7 HN_7 HM_7 HA_7 HF_7 HVF_7 HG_7 HVG_7 hoo HPU
 obtain ⟨⟨c0, c1⟩, -⟩ := HE4_8.out
 go_wp2_with fail
 generalize hWW : w18.alloc (.cells #[.string KK, .slice ac lp.length cc] 24) = V9 at *
 generalize w18.heap.size = HA1 at *
 clear hWW
 refine (HRP.out V9 HV4_8.out).mono ?_
 rintro _ w19 ⟨ad', cd, rfl, hoo, hb⟩
 have hbb : Below V9.heap.size V9 (w19.alloc (.cells #[.string KK, .slice ad' lp.length cd] 24)) := hb.alloc hb.size _
 have hbk : Below w19.heap.size w19 (w19.alloc (.cells #[.string KK, .slice ad' lp.length cd] 24)) := (Below.refl _ _).alloc (Nat.le_refl _) _
 have HE4_9 := Lib.hid (HE4_8.out.below hbb)
 have HX4_9 := Lib.hid (HX4_8.out.below hbb)
 have HV4_9 := Lib.hid (HV4_8.out.below hbb)
 have HB4_9 := Lib.hid (HB4_8.out.trans (hbb.mono HB4_8.out.size))
 have HT_9 := Lib.hid (HT_8.out.below hbb)
 have HVT_9 := Lib.hid (HVT_8.out.below hbb)
 have HN_9 := Lib.hid (HN_8.out.below hbb)
 have HM_9 := Lib.hid (HM_8.out.below hbb)
 have HA_9 := Lib.hid (HA_8.out.below hbb)
 have HF_9 := Lib.hid (HF_8.out.below hbb)
 have HVF_9 := Lib.hid (HVF_8.out.below hbb)
 have HG_9 := Lib.hid (HG_8.out.below hbb)
 have HVG_9 := Lib.hid (HVG_8.out.below hbb)
 have HH_9 := Lib.hid (HH_8.out.below hbb)
 have HVH_9 := Lib.hid (HVH_8.out.below hbb)
 have HI_9 := Lib.hid (EC.new w19 KK ad' lp.length cd 24)
 have HVI_9 := Lib.hid (hoo.below hbk)
 clear hb hbb hbk c0 c1 HE4_8 HX4_8 HV4_8 HB4_8 HT_8 HVT_8 HN_8 HM_8 HA_8 HF_8 HVF_8 HG_8 HVG_8 HH_8 HVH_8 hoo HRP
 obtain ⟨⟨c0, c1⟩, -⟩ := HE4_9.out
 go_wp2_with fail
 generalize hWW : w19.alloc (.cells #[.string KK, .slice ad' lp.length cd] 24) = V at *
 generalize w19.heap.size = RPB at *
 clear hWW c0 c1
 have HLV := Lib.hid (HL.out.below HB4_9.out)
 have hl302 : ∀ y ∈ l, y.body.size ≤ 302 := HZ.out.2.2.2.1
 have hlm : ∀ y ∈ l, y.body.size ≤ 1000000 := fun y hy => by have := hl302 y hy; omega
 have hyb : y.body.size ≤ 302 := by have := now_body hl302; rw [HY.out] at this; exact this
 have hho := holds_own l
 rw [HY.out] at hho
 dsimp only at hho
 have y1 : Hid (∀ Y, Below V.heap.size V Y → Calls Tryz.prog 15 #[.agg #[.string KK, .slice ae l.length ce]] Y fun e w'' => e = .returned (.bool (mayE KK l)) ∧ Below Y.heap.size Y w'') := Lib.hid (fun Y hY => tmay_p KK _ l _ (HV4_9.out.below hY) hl14)
 have y2 : Hid (∀ Y, Below V.heap.size V Y → Calls Tryz.prog 16 #[.agg #[.string KK, .slice ae l.length ce]] Y fun e w'' => e = .returned (.bool (mayE KK l)) ∧ Below Y.heap.size Y w'') := Lib.hid (fun Y hY => rmaye_p KK _ l _ (HV4_9.out.below hY) hl14 hks)
 have y3 : Hid (∀ Y, Below V.heap.size V Y → Calls Tryz.prog 17 #[.agg #[.string KK, .slice aa la.length ca], .agg #[.string KK, .slice ab la.length cb]] Y fun e w'' => e = .returned (.bool true) ∧ Below Y.heap.size Y w'') := Lib.hid (fun Y hY => reqe_p KK KK _ _ la la _ (HVF_9.out.below hY) (HVG_9.out.below hY) (by omega) (by omega) true ⟨fun _ => ⟨rfl, rfl⟩, fun _ => rfl⟩)
 have y4 : Hid (∀ Y, Below V.heap.size V Y → Calls Tryz.prog 17 #[.agg #[.string KK, .slice ac lp.length cc], .agg #[.string KK, .slice ad' lp.length cd]] Y fun e w'' => e = .returned (.bool true) ∧ Below Y.heap.size Y w'') := Lib.hid (fun Y hY => reqe_p KK KK _ _ lp lp _ (HVH_9.out.below hY) (HVI_9.out.below hY) (by omega) (by omega) true ⟨fun _ => ⟨rfl, rfl⟩, fun _ => rfl⟩)
 have y5 : Hid (∀ Y, Below V.heap.size V Y → Calls Tryz.prog 17 #[.agg #[.string KK, .slice ae l.length ce], .agg #[.string KK, .slice at' l.length ct]] Y fun e w'' => e = .returned (.bool true) ∧ Below Y.heap.size Y w'') := Lib.hid (fun Y hY => reqe_p KK KK _ _ l l _ (HV4_9.out.below hY) (HVT_9.out.below hY) hl14 hl14 true ⟨fun _ => ⟨rfl, rfl⟩, fun _ => rfl⟩)
 have y6 : Hid (∀ Y, Below V.heap.size V Y → Calls Tryz.prog 18 #[.agg #[.string KK, .slice ae l.length ce], .int .i64 cond, .string tag] Y fun e w'' => e = .returned (.bool (holdsE l cond tag)) ∧ Below Y.heap.size Y w'') := Lib.hid (fun Y hY => holds_p KK _ l cond tag _ (HV4_9.out.below hY) hl14 hlm (HLV.out.below hY).1)
 have y7 : Hid (∀ Y, Below V.heap.size V Y → Calls Tryz.prog 19 #[.agg #[.string KK, .slice ae l.length ce], .int .i64 cond, .string tag] Y fun e w'' => e = .returned (.bool (holdsE l cond tag)) ∧ Below Y.heap.size Y w'') := Lib.hid (fun Y hY => rholds_p KK _ l cond tag _ (HV4_9.out.below hY) hl14 hlm (HLV.out.below hY).1)
 have y8 : Hid (∀ Y, Below V.heap.size V Y → Calls Tryz.prog 20 #[.string y.body] Y fun e w'' => e = .returned (.string (tagS y.body)) ∧ Below Y.heap.size Y w'') := Lib.hid (fun Y hY => dtag_p y.body (by omega) _ (HLV.out.below hY).1)
 have hh9 := fun W (hW : VsAt W (.slice ae l.length ce) l) (ht : TzAt W) => holds_p KK _ l 2 (tagS y.body) W hW hl14 hlm ht
 rw [hho] at hh9
 have y9 : Hid (∀ Y, Below V.heap.size V Y → Calls Tryz.prog 18 #[.agg #[.string KK, .slice ae l.length ce], .int .i64 2, .string (tagS y.body)] Y fun e w'' => e = .returned (.bool yb) ∧ Below Y.heap.size Y w'') := Lib.hid (fun Y hY => hh9 _ (HV4_9.out.below hY) (HLV.out.below hY).1)
 clear hh9 hho hl302 hlm hyb hks hn
 generalize mayE KK l = mm at *
 generalize holdsE l cond tag = hd at *
 generalize tagS y.body = tg at *
 have hZQ := HZQ.out
 unfold atE ratE at hZQ
 refine wp_region_seq (S := fun Y => Below V.heap.size V Y) (r := tallO) (by kernel_rfl) (seq_of (f := Tryz.f3) (n := 14) (by kernel_rfl) tall_seq) (fun L hc => ?_)
 have hS0 : Below V.heap.size V V.drew := (Below.refl V.heap.size V).drew
 refine hk 0 (.agg #[.string KK, .slice ae l.length ce]) hc rfl ?_ hS0 fun L hc => ?_
 ·intro w' hS; obtain ⟨s0, s1⟩ := (HE4_9.out.below hS).1; go_simp
 refine hk 2 (.agg #[.string KK, .slice ae l.length ce]) hc rfl ?_ hS0 fun L hc => ?_
 ·intro w' hS; obtain ⟨s0, s1⟩ := (HE4_9.out.below hS).1; go_simp
 refine held_one (i := 1) hc rfl (fun K hK => ?_)
 rw [if_pos (by kernel_rfl)]
 go_simp
 refine (y1.out _ hS0).mono ?_
 rintro _ z1 ⟨rfl, hb9⟩
 refine hK.out _ _ (hS0.trans (hb9.mono hS0.size)) (fun L hS0' hc => ?_)
 clear hK hb9 hS0
 have hS0 := hS0'
 clear hS0'
 refine held_one (i := 3) hc rfl (fun K hK => ?_)
 rw [if_pos (by kernel_rfl)]
 go_simp
 refine (y2.out _ hS0).mono ?_
 rintro _ z3 ⟨rfl, hb9⟩
 refine hK.out _ _ (hS0.trans (hb9.mono hS0.size)) (fun L hS0' hc => ?_)
 clear hK hb9 hS0
 have hS0 := hS0'
 clear hS0'
 refine hk 4 (.bool true) hc rfl ?_ hS0 fun L hc => ?_
 ·intro w' hS; go_simp
 refine hk 5 (.bool true) hc rfl ?_ hS0 fun L hc => ?_
 ·intro w' hS; go_simp
 refine hk 6 (.agg #[.int .i64 y.ver, .bool y.gone, .string y.body]) hc rfl ?_ hS0 fun L hc => ?_
 ·intro w' hS; obtain ⟨s0, s1, s2⟩ := (HN_9.out.below hS).1; go_simp
 refine hk 7 (.agg #[.int .i64 y.ver, .bool y.gone, .string y.body]) hc rfl ?_ hS0 fun L hc => ?_
 ·intro w' hS; obtain ⟨s0, s1, s2⟩ := (HM_9.out.below hS).1; go_simp
 refine hk 8 (.bool true) hc rfl ?_ hS0 fun L hc => ?_
 ·intro w' hS; go_simp
 refine hk 9 (.bool true) hc rfl ?_ hS0 fun L hc => ?_
 ·intro w' hS; go_simp
 refine hk 10 (.bool true) hc rfl ?_ hS0 fun L hc => ?_
 ·intro w' hS; go_simp
 refine hk 11 (.bool yb) hc rfl ?_ hS0 fun L hc => ?_
 ·intro w' hS; go_simp
 refine hk 12 (.bool yb) hc rfl ?_ hS0 fun L hc => ?_
 ·intro w' hS; go_simp
 refine hk 13 (.bool true) hc rfl ?_ hS0 fun L hc => ?_
 ·intro w' hS; go_simp
 refine hk 14 (.bool true) hc rfl ?_ hS0 fun L hc => ?_
 ·intro w' hS; go_simp
 refine hk 15 (.bool true) hc rfl ?_ hS0 fun L hc => ?_
 ·intro w' hS; go_simp
 cases hp : placeE l n with
 | none =>
  rw [hp] at hZQ
  simp only [Prod.mk.injEq] at hZQ
  obtain ⟨⟨rfl, rfl⟩, ⟨rfl, rfl⟩⟩ := hZQ
  clear hp
  dsimp only [Ve.zero] at HA_9
  refine hk 16 (.bool false) hc rfl ?_ hS0 fun L hc => ?_
  ·intro w' hS; go_simp
  refine hk 17 (.bool false) hc rfl ?_ hS0 fun L hc => ?_
  ·intro w' hS; go_simp
  refine hk 18 (.bool true) hc rfl ?_ hS0 fun L hc => ?_
  ·intro w' hS; go_simp
  refine hk 19 (.bool true) hc rfl ?_ hS0 fun L hc => ?_
  ·intro w' hS; go_simp
  refine hk 20 (.bool true) hc rfl ?_ hS0 fun L hc => ?_
  ·intro w' hS; go_simp
  refine hk 21 (.bool false) hc rfl ?_ hS0 fun L hc => ?_
  ·intro w' hS; go_simp
  refine hk 22 (.bool true) hc rfl ?_ hS0 fun L hc => ?_
  ·intro w' hS; go_simp
  refine hk 23 (.bool true) hc rfl ?_ hS0 fun L hc => ?_
  ·intro w' hS; go_simp
  refine hk 24 (.agg #[.int .i64 0, .bool false, .string ⟨#[]⟩]) hc rfl ?_ hS0 fun L hc => ?_
  ·intro w' hS; obtain ⟨s0, s1, s2⟩ := (HA_9.out.below hS).1; go_simp
  refine hk 25 (.agg #[.int .i64 0, .bool false, .string ⟨#[]⟩]) hc rfl ?_ hS0 fun L hc => ?_
  ·intro w' hS; go_simp
  refine hk 26 (.bool true) hc rfl ?_ hS0 fun L hc => ?_
  ·intro w' hS; go_simp
  refine hk 27 (.bool true) hc rfl ?_ hS0 fun L hc => ?_
  ·intro w' hS; go_simp
  refine hk 28 (.bool true) hc rfl ?_ hS0 fun L hc => ?_
  ·intro w' hS; go_simp
  refine hu 29 hc rfl hS0 fun L hc => ?_
  refine hu 30 hc rfl hS0 fun L hc => ?_
  refine hu 31 hc rfl hS0 fun L hc => ?_
  refine hu 32 hc rfl hS0 fun L hc => ?_
  refine hu 33 hc rfl hS0 fun L hc => ?_
  refine hu 34 hc rfl hS0 fun L hc => ?_
  refine hu 35 hc rfl hS0 fun L hc => ?_
  refine hu 36 hc rfl hS0 fun L hc => ?_
  refine hu 37 hc rfl hS0 fun L hc => ?_
  refine hu 38 hc rfl hS0 fun L hc => ?_
  refine hk 39 (.bool true) hc rfl ?_ hS0 fun L hc => ?_
  ·intro w' hS; go_simp
  refine hk 40 (.bool true) hc rfl ?_ hS0 fun L hc => ?_
  ·intro w' hS; go_simp
  refine hk 41 (.bool true) hc rfl ?_ hS0 fun L hc => ?_
  ·intro w' hS; go_simp
  refine hk 42 (.bool oka) hc rfl ?_ hS0 fun L hc => ?_
  ·intro w' hS; go_simp
  refine hk 43 (.bool oka) hc rfl ?_ hS0 fun L hc => ?_
  ·intro w' hS; go_simp
  refine hk 44 (.bool true) hc rfl ?_ hS0 fun L hc => ?_
  ·intro w' hS; go_simp
  refine hk 45 (.bool true) hc rfl ?_ hS0 fun L hc => ?_
  ·intro w' hS; go_simp
  refine hk 46 (.bool true) hc rfl ?_ hS0 fun L hc => ?_
  ·intro w' hS; go_simp
  refine hk 47 (.agg #[.string KK, .slice aa la.length ca]) hc rfl ?_ hS0 fun L hc => ?_
  ·intro w' hS; obtain ⟨s0, s1⟩ := (HF_9.out.below hS).1; go_simp
  refine hk 48 (.agg #[.string KK, .slice ab la.length cb]) hc rfl ?_ hS0 fun L hc => ?_
  ·intro w' hS; obtain ⟨s0, s1⟩ := (HG_9.out.below hS).1; go_simp
  refine held_one (i := 49) hc rfl (fun K hK => ?_)
  rw [if_pos (by kernel_rfl)]
  go_simp
  refine (y3.out _ hS0).mono ?_
  rintro _ z49 ⟨rfl, hb9⟩
  refine hK.out _ _ (hS0.trans (hb9.mono hS0.size)) (fun L hS0' hc => ?_)
  clear hK hb9 hS0
  have hS0 := hS0'
  clear hS0'
  refine hk 50 (.bool true) hc rfl ?_ hS0 fun L hc => ?_
  ·intro w' hS; go_simp
  refine hk 51 (.bool true) hc rfl ?_ hS0 fun L hc => ?_
  ·intro w' hS; go_simp
  refine hk 52 (.bool okp) hc rfl ?_ hS0 fun L hc => ?_
  ·intro w' hS; go_simp
  refine hk 53 (.bool okp) hc rfl ?_ hS0 fun L hc => ?_
  ·intro w' hS; go_simp
  refine hk 54 (.bool true) hc rfl ?_ hS0 fun L hc => ?_
  ·intro w' hS; go_simp
  refine hk 55 (.bool true) hc rfl ?_ hS0 fun L hc => ?_
  ·intro w' hS; go_simp
  refine hk 56 (.bool true) hc rfl ?_ hS0 fun L hc => ?_
  ·intro w' hS; go_simp
  refine hk 57 (.agg #[.string KK, .slice ac lp.length cc]) hc rfl ?_ hS0 fun L hc => ?_
  ·intro w' hS; obtain ⟨s0, s1⟩ := (HH_9.out.below hS).1; go_simp
  refine hk 58 (.agg #[.string KK, .slice ad' lp.length cd]) hc rfl ?_ hS0 fun L hc => ?_
  ·intro w' hS; obtain ⟨s0, s1⟩ := (HI_9.out.below hS).1; go_simp
  refine held_one (i := 59) hc rfl (fun K hK => ?_)
  rw [if_pos (by kernel_rfl)]
  go_simp
  refine (y4.out _ hS0).mono ?_
  rintro _ z59 ⟨rfl, hb9⟩
  refine hK.out _ _ (hS0.trans (hb9.mono hS0.size)) (fun L hS0' hc => ?_)
  clear hK hb9 hS0
  have hS0 := hS0'
  clear hS0'
  refine hk 60 (.bool true) hc rfl ?_ hS0 fun L hc => ?_
  ·intro w' hS; go_simp
  refine hk 61 (.bool true) hc rfl ?_ hS0 fun L hc => ?_
  ·intro w' hS; go_simp
  refine hk 62 (.agg #[.string KK, .slice ae l.length ce]) hc rfl ?_ hS0 fun L hc => ?_
  ·intro w' hS; obtain ⟨s0, s1⟩ := (HE4_9.out.below hS).1; go_simp
  refine hk 63 (.int .i64 cond) hc rfl ?_ hS0 fun L hc => ?_
  ·intro w' hS; go_simp
  refine hk 64 (.string tag) hc rfl ?_ hS0 fun L hc => ?_
  ·intro w' hS; go_simp
  refine hk 66 (.agg #[.string KK, .slice ae l.length ce]) hc rfl ?_ hS0 fun L hc => ?_
  ·intro w' hS; obtain ⟨s0, s1⟩ := (HE4_9.out.below hS).1; go_simp
  refine hk 67 (.int .i64 cond) hc rfl ?_ hS0 fun L hc => ?_
  ·intro w' hS; go_simp
  refine hk 68 (.string tag) hc rfl ?_ hS0 fun L hc => ?_
  ·intro w' hS; go_simp
  refine held_one (i := 65) hc rfl (fun K hK => ?_)
  rw [if_pos (by kernel_rfl)]
  go_simp
  refine (y6.out _ hS0).mono ?_
  rintro _ z65 ⟨rfl, hb9⟩
  refine hK.out _ _ (hS0.trans (hb9.mono hS0.size)) (fun L hS0' hc => ?_)
  clear hK hb9 hS0
  have hS0 := hS0'
  clear hS0'
  refine held_one (i := 69) hc rfl (fun K hK => ?_)
  rw [if_pos (by kernel_rfl)]
  go_simp
  refine (y7.out _ hS0).mono ?_
  rintro _ z69 ⟨rfl, hb9⟩
  refine hK.out _ _ (hS0.trans (hb9.mono hS0.size)) (fun L hS0' hc => ?_)
  clear hK hb9 hS0
  have hS0 := hS0'
  clear hS0'
  refine hk 70 (.bool true) hc rfl ?_ hS0 fun L hc => ?_
  ·intro w' hS; go_simp
  refine hk 71 (.bool true) hc rfl ?_ hS0 fun L hc => ?_
  ·intro w' hS; go_simp
  refine hk 72 (.bool true) hc rfl ?_ hS0 fun L hc => ?_
  ·intro w' hS; go_simp
  refine hk 73 (.pointer (some ⟨w.heap.size, 1, none⟩)) hc rfl ?_ hS0 fun L hc => ?_
  ·intro w' hS; go_simp
  refine hk 74 (.slice ae l.length ce) hc rfl ?_ hS0 fun L hc => ?_
  ·intro w' hS; obtain ⟨s0, s1⟩ := (HE4_9.out.below hS).1; go_simp
  refine hk 75 (.int .i64 l.length) hc rfl ?_ hS0 fun L hc => ?_
  ·intro w' hS; go_simp
  by_cases hln : l.length = 0
  ·have hl0 : ((l.length : Int) == 0) = true := by rw [beq_iff_eq]; omega
   clear hln
   refine hk 76 (.bool true) hc rfl ?_ hS0 fun L hc => ?_
   ·intro w' hS; go_simp
   refine hk 77 (.bool true) hc rfl ?_ hS0 fun L hc => ?_
   ·intro w' hS; go_simp
   refine hu 78 hc rfl hS0 fun L hc => ?_
   refine hu 79 hc rfl hS0 fun L hc => ?_
   refine hu 80 hc rfl hS0 fun L hc => ?_
   refine hu 83 hc rfl hS0 fun L hc => ?_
   refine held_skip (i := 81) hc rfl (by kernel_rfl) hS0 (fun L hc => ?_)
   refine held_skip (i := 82) hc rfl (by kernel_rfl) hS0 (fun L hc => ?_)
   refine hu 84 hc rfl hS0 fun L hc => ?_
   refine hk 85 (.bool true) hc rfl ?_ hS0 fun L hc => ?_
   ·intro w' hS; go_simp
   refine hk 86 (.bool true) hc rfl ?_ hS0 fun L hc => ?_
   ·intro w' hS; go_simp
   refine hk 87 (.bool true) hc rfl ?_ hS0 fun L hc => ?_
   ·intro w' hS; go_simp
   refine hk 88 (.agg #[.string KK, .slice ae l.length ce]) hc rfl ?_ hS0 fun L hc => ?_
   ·intro w' hS; obtain ⟨s0, s1⟩ := (HE4_9.out.below hS).1; go_simp
   refine hk 89 (.agg #[.string KK, .slice at' l.length ct]) hc rfl ?_ hS0 fun L hc => ?_
   ·intro w' hS; obtain ⟨s0, s1⟩ := (HT_9.out.below hS).1; go_simp
   refine held_one (i := 90) hc rfl (fun K hK => ?_)
   rw [if_pos (by kernel_rfl)]
   go_simp
   refine (y5.out _ hS0).mono ?_
   rintro _ z90 ⟨rfl, hb9⟩
   refine hK.out _ _ (hS0.trans (hb9.mono hS0.size)) (fun L hS0' hc => ?_)
   clear hK hb9 hS0
   have hS0 := hS0'
   clear hS0'
   refine hk 91 (.bool true) hc rfl ?_ hS0 fun L hc => ?_
   ·intro w' hS; go_simp
   refine hk 92 (.bool true) hc rfl ?_ hS0 fun L hc => ?_
   ·intro w' hS; go_simp
   refine held_done hc ?_ _
   have HEE := Lib.hid (HB4_9.out.trans (hS0.mono HB4_9.out.size))
   clear hS0
   go_wp2_with fail
   go_ret
   exact ⟨rfl, HEE.out⟩
  ·have hl0 : ((l.length : Int) == 0) = false := by rw [beq_eq_false_iff_ne]; omega
   clear hln
   refine hk 76 (.bool false) hc rfl ?_ hS0 fun L hc => ?_
   ·intro w' hS; go_simp
   refine hk 77 (.bool false) hc rfl ?_ hS0 fun L hc => ?_
   ·intro w' hS; go_simp
   refine hk 78 (.agg #[.string KK, .slice ae l.length ce]) hc rfl ?_ hS0 fun L hc => ?_
   ·intro w' hS; obtain ⟨s0, s1⟩ := (HE4_9.out.below hS).1; go_simp
   refine hk 79 (.pointer (some ⟨N2, 2, none⟩)) hc rfl ?_ hS0 fun L hc => ?_
   ·intro w' hS; go_simp
   refine hk 80 (.string y.body) hc rfl ?_ hS0 fun L hc => ?_
   ·intro w' hS; obtain ⟨s0, s1, s2⟩ := (HM_9.out.below hS).1; go_simp
   refine hk 83 (.bool yb) hc rfl ?_ hS0 fun L hc => ?_
   ·intro w' hS; go_simp
   refine held_one (i := 81) hc rfl (fun K hK => ?_)
   rw [if_pos (by kernel_rfl)]
   go_simp
   refine (y8.out _ hS0).mono ?_
   rintro _ z81 ⟨rfl, hb9⟩
   refine hK.out _ _ (hS0.trans (hb9.mono hS0.size)) (fun L hS0' hc => ?_)
   clear hK hb9 hS0
   have hS0 := hS0'
   clear hS0'
   refine held_one (i := 82) hc rfl (fun K hK => ?_)
   rw [if_pos (by kernel_rfl)]
   go_simp
   refine (y9.out _ hS0).mono ?_
   rintro _ z82 ⟨rfl, hb9⟩
   refine hK.out _ _ (hS0.trans (hb9.mono hS0.size)) (fun L hS0' hc => ?_)
   clear hK hb9 hS0
   have hS0 := hS0'
   clear hS0'
   refine hk 84 (.bool true) hc rfl ?_ hS0 fun L hc => ?_
   ·intro w' hS; go_simp
   refine hk 85 (.bool true) hc rfl ?_ hS0 fun L hc => ?_
   ·intro w' hS; go_simp
   refine hk 86 (.bool true) hc rfl ?_ hS0 fun L hc => ?_
   ·intro w' hS; go_simp
   refine hk 87 (.bool true) hc rfl ?_ hS0 fun L hc => ?_
   ·intro w' hS; go_simp
   refine hk 88 (.agg #[.string KK, .slice ae l.length ce]) hc rfl ?_ hS0 fun L hc => ?_
   ·intro w' hS; obtain ⟨s0, s1⟩ := (HE4_9.out.below hS).1; go_simp
   refine hk 89 (.agg #[.string KK, .slice at' l.length ct]) hc rfl ?_ hS0 fun L hc => ?_
   ·intro w' hS; obtain ⟨s0, s1⟩ := (HT_9.out.below hS).1; go_simp
   refine held_one (i := 90) hc rfl (fun K hK => ?_)
   rw [if_pos (by kernel_rfl)]
   go_simp
   refine (y5.out _ hS0).mono ?_
   rintro _ z90 ⟨rfl, hb9⟩
   refine hK.out _ _ (hS0.trans (hb9.mono hS0.size)) (fun L hS0' hc => ?_)
   clear hK hb9 hS0
   have hS0 := hS0'
   clear hS0'
   refine hk 91 (.bool true) hc rfl ?_ hS0 fun L hc => ?_
   ·intro w' hS; go_simp
   refine hk 92 (.bool true) hc rfl ?_ hS0 fun L hc => ?_
   ·intro w' hS; go_simp
   refine held_done hc ?_ _
   have HEE := Lib.hid (HB4_9.out.trans (hS0.mono HB4_9.out.size))
   clear hS0
   go_wp2_with fail
   go_ret
   exact ⟨rfl, HEE.out⟩
 | some k =>
  have hkl := placeE_lt hp
  rw [hp] at hZQ
  simp only [Prod.mk.injEq] at hZQ
  obtain ⟨⟨hz, rfl⟩, ⟨rfl, rfl⟩⟩ := hZQ
  obtain ⟨u, hu⟩ : ∃ u, l[k]? = some u := ⟨_, List.getElem?_eq_getElem hkl⟩
  have hzu : z = u := by rw [← hz]; simp [List.getD, hu]
  subst hzu
  obtain ⟨g, o', rfl, u0, u1, u2, hg⟩ := HV4_9.out.get hu
  have hkz : (k : Int) < (l.length : Int) := by omega
  have hl0 : ((l.length : Int) == 0) = false := by rw [beq_eq_false_iff_ne]; omega
  clear hp hz hu
  refine hk 16 (.bool true) hc rfl ?_ hS0 fun L hc => ?_
  ·intro w' hS; go_simp
  refine hk 17 (.bool true) hc rfl ?_ hS0 fun L hc => ?_
  ·intro w' hS; go_simp
  refine hk 18 (.bool true) hc rfl ?_ hS0 fun L hc => ?_
  ·intro w' hS; go_simp
  refine hk 19 (.bool true) hc rfl ?_ hS0 fun L hc => ?_
  ·intro w' hS; go_simp
  refine hk 20 (.bool true) hc rfl ?_ hS0 fun L hc => ?_
  ·intro w' hS; go_simp
  refine hk 21 (.bool true) hc rfl ?_ hS0 fun L hc => ?_
  ·intro w' hS; go_simp
  refine hk 22 (.bool false) hc rfl ?_ hS0 fun L hc => ?_
  ·intro w' hS; go_simp
  refine hk 23 (.bool false) hc rfl ?_ hS0 fun L hc => ?_
  ·intro w' hS; go_simp
  refine hu 24 hc rfl hS0 fun L hc => ?_
  refine hu 25 hc rfl hS0 fun L hc => ?_
  refine hu 26 hc rfl hS0 fun L hc => ?_
  refine hk 27 (.bool false) hc rfl ?_ hS0 fun L hc => ?_
  ·intro w' hS; go_simp
  refine hk 28 (.bool false) hc rfl ?_ hS0 fun L hc => ?_
  ·intro w' hS; go_simp
  refine hk 29 (.bool true) hc rfl ?_ hS0 fun L hc => ?_
  ·intro w' hS; go_simp
  refine hk 30 (.bool true) hc rfl ?_ hS0 fun L hc => ?_
  ·intro w' hS; go_simp
  refine hk 31 (.agg #[.int .i64 z.ver, .bool z.gone, .string z.body]) hc rfl ?_ hS0 fun L hc => ?_
  ·intro w' hS; obtain ⟨s0, s1, s2⟩ := (HA_9.out.below hS).1; go_simp
  refine hk 32 (.pointer (some ⟨w.heap.size, 1, none⟩)) hc rfl ?_ hS0 fun L hc => ?_
  ·intro w' hS; go_simp
  refine hk 33 (.slice (some ⟨g, o', none⟩) l.length ce) hc rfl ?_ hS0 fun L hc => ?_
  ·intro w' hS; obtain ⟨s0, s1⟩ := (HE4_9.out.below hS).1; go_simp
  refine hk 34 (.int .i64 k) hc rfl ?_ hS0 fun L hc => ?_
  ·intro w' hS; go_simp
  refine hk 35 (.pointer (some ⟨g, o' + k * 3, none⟩)) hc rfl ?_ hS0 fun L hc => ?_
  ·intro w' hS; go_simp
  refine hk 36 (.agg #[.int .i64 z.ver, .bool z.gone, .string z.body]) hc rfl ?_ hS0 fun L hc => ?_
  ·intro w' hS; have s0 := cell_kept hS (Nat.le_refl _) u0; have s1 := cell_kept hS (Nat.le_refl _) u1; have s2 := cell_kept hS (Nat.le_refl _) u2; go_simp
  refine hk 37 (.bool true) hc rfl ?_ hS0 fun L hc => ?_
  ·intro w' hS; go_simp
  refine hk 38 (.bool true) hc rfl ?_ hS0 fun L hc => ?_
  ·intro w' hS; go_simp
  refine hk 39 (.bool true) hc rfl ?_ hS0 fun L hc => ?_
  ·intro w' hS; go_simp
  refine hk 40 (.bool true) hc rfl ?_ hS0 fun L hc => ?_
  ·intro w' hS; go_simp
  refine hk 41 (.bool true) hc rfl ?_ hS0 fun L hc => ?_
  ·intro w' hS; go_simp
  refine hk 42 (.bool oka) hc rfl ?_ hS0 fun L hc => ?_
  ·intro w' hS; go_simp
  refine hk 43 (.bool oka) hc rfl ?_ hS0 fun L hc => ?_
  ·intro w' hS; go_simp
  refine hk 44 (.bool true) hc rfl ?_ hS0 fun L hc => ?_
  ·intro w' hS; go_simp
  refine hk 45 (.bool true) hc rfl ?_ hS0 fun L hc => ?_
  ·intro w' hS; go_simp
  refine hk 46 (.bool true) hc rfl ?_ hS0 fun L hc => ?_
  ·intro w' hS; go_simp
  refine hk 47 (.agg #[.string KK, .slice aa la.length ca]) hc rfl ?_ hS0 fun L hc => ?_
  ·intro w' hS; obtain ⟨s0, s1⟩ := (HF_9.out.below hS).1; go_simp
  refine hk 48 (.agg #[.string KK, .slice ab la.length cb]) hc rfl ?_ hS0 fun L hc => ?_
  ·intro w' hS; obtain ⟨s0, s1⟩ := (HG_9.out.below hS).1; go_simp
  refine held_one (i := 49) hc rfl (fun K hK => ?_)
  rw [if_pos (by kernel_rfl)]
  go_simp
  refine (y3.out _ hS0).mono ?_
  rintro _ z49 ⟨rfl, hb9⟩
  refine hK.out _ _ (hS0.trans (hb9.mono hS0.size)) (fun L hS0' hc => ?_)
  clear hK hb9 hS0
  have hS0 := hS0'
  clear hS0'
  refine hk 50 (.bool true) hc rfl ?_ hS0 fun L hc => ?_
  ·intro w' hS; go_simp
  refine hk 51 (.bool true) hc rfl ?_ hS0 fun L hc => ?_
  ·intro w' hS; go_simp
  refine hk 52 (.bool okp) hc rfl ?_ hS0 fun L hc => ?_
  ·intro w' hS; go_simp
  refine hk 53 (.bool okp) hc rfl ?_ hS0 fun L hc => ?_
  ·intro w' hS; go_simp
  refine hk 54 (.bool true) hc rfl ?_ hS0 fun L hc => ?_
  ·intro w' hS; go_simp
  refine hk 55 (.bool true) hc rfl ?_ hS0 fun L hc => ?_
  ·intro w' hS; go_simp
  refine hk 56 (.bool true) hc rfl ?_ hS0 fun L hc => ?_
  ·intro w' hS; go_simp
  refine hk 57 (.agg #[.string KK, .slice ac lp.length cc]) hc rfl ?_ hS0 fun L hc => ?_
  ·intro w' hS; obtain ⟨s0, s1⟩ := (HH_9.out.below hS).1; go_simp
  refine hk 58 (.agg #[.string KK, .slice ad' lp.length cd]) hc rfl ?_ hS0 fun L hc => ?_
  ·intro w' hS; obtain ⟨s0, s1⟩ := (HI_9.out.below hS).1; go_simp
  refine held_one (i := 59) hc rfl (fun K hK => ?_)
  rw [if_pos (by kernel_rfl)]
  go_simp
  refine (y4.out _ hS0).mono ?_
  rintro _ z59 ⟨rfl, hb9⟩
  refine hK.out _ _ (hS0.trans (hb9.mono hS0.size)) (fun L hS0' hc => ?_)
  clear hK hb9 hS0
  have hS0 := hS0'
  clear hS0'
  refine hk 60 (.bool true) hc rfl ?_ hS0 fun L hc => ?_
  ·intro w' hS; go_simp
  refine hk 61 (.bool true) hc rfl ?_ hS0 fun L hc => ?_
  ·intro w' hS; go_simp
  refine hk 62 (.agg #[.string KK, .slice (some ⟨g, o', none⟩) l.length ce]) hc rfl ?_ hS0 fun L hc => ?_
  ·intro w' hS; obtain ⟨s0, s1⟩ := (HE4_9.out.below hS).1; go_simp
  refine hk 63 (.int .i64 cond) hc rfl ?_ hS0 fun L hc => ?_
  ·intro w' hS; go_simp
  refine hk 64 (.string tag) hc rfl ?_ hS0 fun L hc => ?_
  ·intro w' hS; go_simp
  refine hk 66 (.agg #[.string KK, .slice (some ⟨g, o', none⟩) l.length ce]) hc rfl ?_ hS0 fun L hc => ?_
  ·intro w' hS; obtain ⟨s0, s1⟩ := (HE4_9.out.below hS).1; go_simp
  refine hk 67 (.int .i64 cond) hc rfl ?_ hS0 fun L hc => ?_
  ·intro w' hS; go_simp
  refine hk 68 (.string tag) hc rfl ?_ hS0 fun L hc => ?_
  ·intro w' hS; go_simp
  refine held_one (i := 65) hc rfl (fun K hK => ?_)
  rw [if_pos (by kernel_rfl)]
  go_simp
  refine (y6.out _ hS0).mono ?_
  rintro _ z65 ⟨rfl, hb9⟩
  refine hK.out _ _ (hS0.trans (hb9.mono hS0.size)) (fun L hS0' hc => ?_)
  clear hK hb9 hS0
  have hS0 := hS0'
  clear hS0'
  refine held_one (i := 69) hc rfl (fun K hK => ?_)
  rw [if_pos (by kernel_rfl)]
  go_simp
  refine (y7.out _ hS0).mono ?_
  rintro _ z69 ⟨rfl, hb9⟩
  refine hK.out _ _ (hS0.trans (hb9.mono hS0.size)) (fun L hS0' hc => ?_)
  clear hK hb9 hS0
  have hS0 := hS0'
  clear hS0'
  refine hk 70 (.bool true) hc rfl ?_ hS0 fun L hc => ?_
  ·intro w' hS; go_simp
  refine hk 71 (.bool true) hc rfl ?_ hS0 fun L hc => ?_
  ·intro w' hS; go_simp
  refine hk 72 (.bool true) hc rfl ?_ hS0 fun L hc => ?_
  ·intro w' hS; go_simp
  refine hk 73 (.pointer (some ⟨w.heap.size, 1, none⟩)) hc rfl ?_ hS0 fun L hc => ?_
  ·intro w' hS; go_simp
  refine hk 74 (.slice (some ⟨g, o', none⟩) l.length ce) hc rfl ?_ hS0 fun L hc => ?_
  ·intro w' hS; obtain ⟨s0, s1⟩ := (HE4_9.out.below hS).1; go_simp
  refine hk 75 (.int .i64 l.length) hc rfl ?_ hS0 fun L hc => ?_
  ·intro w' hS; go_simp
  refine hk 76 (.bool false) hc rfl ?_ hS0 fun L hc => ?_
  ·intro w' hS; go_simp
  refine hk 77 (.bool false) hc rfl ?_ hS0 fun L hc => ?_
  ·intro w' hS; go_simp
  refine hk 78 (.agg #[.string KK, .slice (some ⟨g, o', none⟩) l.length ce]) hc rfl ?_ hS0 fun L hc => ?_
  ·intro w' hS; obtain ⟨s0, s1⟩ := (HE4_9.out.below hS).1; go_simp
  refine hk 79 (.pointer (some ⟨N2, 2, none⟩)) hc rfl ?_ hS0 fun L hc => ?_
  ·intro w' hS; go_simp
  refine hk 80 (.string y.body) hc rfl ?_ hS0 fun L hc => ?_
  ·intro w' hS; obtain ⟨s0, s1, s2⟩ := (HM_9.out.below hS).1; go_simp
  refine hk 83 (.bool yb) hc rfl ?_ hS0 fun L hc => ?_
  ·intro w' hS; go_simp
  refine held_one (i := 81) hc rfl (fun K hK => ?_)
  rw [if_pos (by kernel_rfl)]
  go_simp
  refine (y8.out _ hS0).mono ?_
  rintro _ z81 ⟨rfl, hb9⟩
  refine hK.out _ _ (hS0.trans (hb9.mono hS0.size)) (fun L hS0' hc => ?_)
  clear hK hb9 hS0
  have hS0 := hS0'
  clear hS0'
  refine held_one (i := 82) hc rfl (fun K hK => ?_)
  rw [if_pos (by kernel_rfl)]
  go_simp
  refine (y9.out _ hS0).mono ?_
  rintro _ z82 ⟨rfl, hb9⟩
  refine hK.out _ _ (hS0.trans (hb9.mono hS0.size)) (fun L hS0' hc => ?_)
  clear hK hb9 hS0
  have hS0 := hS0'
  clear hS0'
  refine hk 84 (.bool true) hc rfl ?_ hS0 fun L hc => ?_
  ·intro w' hS; go_simp
  refine hk 85 (.bool true) hc rfl ?_ hS0 fun L hc => ?_
  ·intro w' hS; go_simp
  refine hk 86 (.bool true) hc rfl ?_ hS0 fun L hc => ?_
  ·intro w' hS; go_simp
  refine hk 87 (.bool true) hc rfl ?_ hS0 fun L hc => ?_
  ·intro w' hS; go_simp
  refine hk 88 (.agg #[.string KK, .slice (some ⟨g, o', none⟩) l.length ce]) hc rfl ?_ hS0 fun L hc => ?_
  ·intro w' hS; obtain ⟨s0, s1⟩ := (HE4_9.out.below hS).1; go_simp
  refine hk 89 (.agg #[.string KK, .slice at' l.length ct]) hc rfl ?_ hS0 fun L hc => ?_
  ·intro w' hS; obtain ⟨s0, s1⟩ := (HT_9.out.below hS).1; go_simp
  refine held_one (i := 90) hc rfl (fun K hK => ?_)
  rw [if_pos (by kernel_rfl)]
  go_simp
  refine (y5.out _ hS0).mono ?_
  rintro _ z90 ⟨rfl, hb9⟩
  refine hK.out _ _ (hS0.trans (hb9.mono hS0.size)) (fun L hS0' hc => ?_)
  clear hK hb9 hS0
  have hS0 := hS0'
  clear hS0'
  refine hk 91 (.bool true) hc rfl ?_ hS0 fun L hc => ?_
  ·intro w' hS; go_simp
  refine hk 92 (.bool true) hc rfl ?_ hS0 fun L hc => ?_
  ·intro w' hS; go_simp
  refine held_done hc ?_ _
  have HEE := Lib.hid (HB4_9.out.trans (hS0.mono HB4_9.out.size))
  clear hS0
  go_wp2_with fail
  go_ret
  exact ⟨rfl, HEE.out⟩
end Go.Proofs.YtlajbminbdhpaaaGreatDoor
