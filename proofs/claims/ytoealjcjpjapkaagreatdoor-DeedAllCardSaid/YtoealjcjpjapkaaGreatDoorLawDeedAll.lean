/-
 Contracts of the program, and what they rest on.
-/
import Derived.Test.YtoealjcjpjapkaaGreatDoorTk
import Derived.Test.YtoealjcjpjapkaaGreatDoorM04
import Derived.Test.YtoealjcjpjapkaaGreatDoorM14
import Derived.Test.YtoealjcjpjapkaaGreatDoorM33
import Derived.Lib.QuietBelow
import Derived.Test.YtoealjcjpjapkaaGreatDoorRA
import Derived.Test.YtoealjcjpjapkaaGreatDoorLdA
import Derived.Test.YtoealjcjpjapkaaGreatDoorRefDa
import Derived.Test.YtoealjcjpjapkaaGreatDoorRefDv
import Derived.Test.YtoealjcjpjapkaaGreatDoorRefP
import Derived.Test.YtoealjcjpjapkaaGreatDoorLd5
import Derived.Test.YtoealjcjpjapkaaGreatDoorBack
import Derived.Test.YtoealjcjpjapkaaGreatDoorEqr
set_option maxRecDepth 100000
set_option maxHeartbeats 16000000
namespace Go.Proofs.YtoealjcjpjapkaaGreatDoor
open Go.RowKit
theorem putD_other {w : World} {b c : Nat} {d : De} (h : DeC w b d) (hw : DeW w b) (hne : c ≠ b) (e : De) :
  DeC ((((((((w.setCell ⟨c, 0, none⟩ (.int .i64 e.kind)).setCell ⟨c, 1, none⟩ (.string e.key)).setCell ⟨c, 2, none⟩ (.string e.body)).setCell ⟨c, 3, none⟩ (.int .i64 e.ver)).setCell ⟨c, 4, none⟩ (.int .i64 e.cond)).setCell ⟨c, 5, none⟩ (.string e.tag)).setCell ⟨c, 6, none⟩ (.int .i64 e.req)).setCell ⟨c, 7, none⟩ (.int .i64 e.low)) b d ∧
  DeW ((((((((w.setCell ⟨c, 0, none⟩ (.int .i64 e.kind)).setCell ⟨c, 1, none⟩ (.string e.key)).setCell ⟨c, 2, none⟩ (.string e.body)).setCell ⟨c, 3, none⟩ (.int .i64 e.ver)).setCell ⟨c, 4, none⟩ (.int .i64 e.cond)).setCell ⟨c, 5, none⟩ (.string e.tag)).setCell ⟨c, 6, none⟩ (.int .i64 e.req)).setCell ⟨c, 7, none⟩ (.int .i64 e.low)) b := by
 have hn : ∀ o : Nat, (⟨c, o, none⟩ : Addr).block ≠ b := fun o => hne
 have e1 : ((((((((w.setCell ⟨c, 0, none⟩ (.int .i64 e.kind)).setCell ⟨c, 1, none⟩ (.string e.key)).setCell ⟨c, 2, none⟩ (.string e.body)).setCell ⟨c, 3, none⟩ (.int .i64 e.ver)).setCell ⟨c, 4, none⟩ (.int .i64 e.cond)).setCell ⟨c, 5, none⟩ (.string e.tag)).setCell ⟨c, 6, none⟩ (.int .i64 e.req)).setCell ⟨c, 7, none⟩ (.int .i64 e.low)).heap[b]? = w.heap[b]? := by
  iterate 8 rw [Below.heap_setCell _ _ _ _ (by simpa using hne.symm)]
 have cc (o : Nat) := World.cell?_of_block (a := ⟨b, o, none⟩) e1
 have ff (o : Nat) := World.frozen?_of_block (a := ⟨b, o, none⟩) e1
 unfold DeC DeW at *
 simp only [cc, ff]
 exact ⟨h, hw⟩
def TwoD (w : World) (b : Nat) (d e : De) : Prop := (DeC w b d ∧ DeW w b) ∧ (DeC w (b + 1) e ∧ DeW w (b + 1))
theorem TwoD.below {w w' : World} {b : Nat} {d e : De} (h : TwoD w b d e) (hb : Below w.heap.size w w') : TwoD w' b d e :=
 ⟨⟨h.1.1.below hb, h.1.2.below (World.block_lt_of_cell? w _ h.1.1.1) hb⟩, ⟨h.2.1.below hb, h.2.2.below (World.block_lt_of_cell? w _ h.2.1.1) hb⟩⟩
theorem TwoD.new (w : World) (d e : De) (t : TypeId) : TwoD ((w.alloc (.cells #[.int .i64 d.kind, .string d.key, .string d.body, .int .i64 d.ver, .int .i64 d.cond, .string d.tag, .int .i64 d.req, .int .i64 d.low] t)).alloc (.cells #[.int .i64 e.kind, .string e.key, .string e.body, .int .i64 e.ver, .int .i64 e.cond, .string e.tag, .int .i64 e.req, .int .i64 e.low] t)) w.heap.size d e := by
 have h1 := DeC.new w d t
 have h2 := DeW.new w d t
 have hb := (Below.refl _ (w.alloc (.cells #[.int .i64 d.kind, .string d.key, .string d.body, .int .i64 d.ver, .int .i64 d.cond, .string d.tag, .int .i64 d.req, .int .i64 d.low] t))).alloc (Nat.le_refl _) (.cells #[.int .i64 e.kind, .string e.key, .string e.body, .int .i64 e.ver, .int .i64 e.cond, .string e.tag, .int .i64 e.req, .int .i64 e.low] t)
 have h3 := DeC.new (w.alloc (.cells #[.int .i64 d.kind, .string d.key, .string d.body, .int .i64 d.ver, .int .i64 d.cond, .string d.tag, .int .i64 d.req, .int .i64 d.low] t)) e t
 have h4 := DeW.new (w.alloc (.cells #[.int .i64 d.kind, .string d.key, .string d.body, .int .i64 d.ver, .int .i64 d.cond, .string d.tag, .int .i64 d.req, .int .i64 d.low] t)) e t
 rw [show (w.alloc (.cells #[.int .i64 d.kind, .string d.key, .string d.body, .int .i64 d.ver, .int .i64 d.cond, .string d.tag, .int .i64 d.req, .int .i64 d.low] t)).heap.size = w.heap.size + 1 by simp] at h3 h4
 exact ⟨⟨h1.below hb, h2.below (World.block_lt_of_cell? _ _ h1.1) hb⟩, h3, h4⟩
theorem fit_parts (d : De) : d.parts.fit := ⟨⟨by decide, trivial⟩, ⟨by decide, trivial⟩, ⟨by decide, trivial⟩, ⟨by decide, trivial⟩, ⟨by decide, trivial⟩, ⟨by decide, trivial⟩, ⟨by decide, trivial⟩, ⟨by decide, trivial⟩, trivial⟩
def deq (d e : De) : Bool := d.kind == e.kind && (d.key.toList == e.key.toList && (d.body.toList == e.body.toList && (d.ver == e.ver && (d.cond == e.cond && (d.tag.toList == e.tag.toList && (d.req == e.req && d.low == e.low))))))
theorem ite_f {α : Type} (f : Bool → α) (p : Prop) [Decidable p] (b q : Bool) (hb : b = true ↔ p) (x : α) (hx : x = f q) : (if p then x else f false) = f (b && q) := by
 by_cases h : p
 ·rw [if_pos h, hx, hb.2 h, Bool.true_and]
 ·rw [if_neg h]
  cases b with
  | false => rfl
  | true => exact absurd (hb.1 rfl) h
theorem ite_l {α : Type} (f : Bool → α) (p : Prop) [Decidable p] (b : Bool) (hb : b = true ↔ p) : (if p then f true else f false) = f b := by
 have := ite_f f p b true hb (f true) rfl
 rwa [Bool.and_true] at this
theorem deq_run {α : Type} (d e : De) (f : Bool → α) : (if d.kind = e.kind then if d.key.toList = e.key.toList then if d.body.toList = e.body.toList then if d.ver = e.ver then if d.cond = e.cond then if d.tag.toList = e.tag.toList then if d.req = e.req then if d.low = e.low then f true else f false else f false else f false else f false else f false else f false else f false else f false) = f (deq d e) :=
 ite_f f _ _ _ beq_iff_eq _ (ite_f f _ _ _ beq_iff_eq _ (ite_f f _ _ _ beq_iff_eq _ (ite_f f _ _ _ beq_iff_eq _ (ite_f f _ _ _ beq_iff_eq _ (ite_f f _ _ _ beq_iff_eq _ (ite_f f _ _ _ beq_iff_eq _ (ite_l f _ _ beq_iff_eq)))))))
theorem ba_ext {a b : ByteArray} (h : a.toList = b.toList) : a = b := by
 rw [ByteArray.toList_eq, ByteArray.toList_eq] at h
 exact ByteArray.ext (Array.toList_inj.1 h)
theorem deq_iff (d e : De) : deq d e = true ↔ d = e := by
 obtain ⟨a1, a2, a3, a4, a5, a6, a7, a8⟩ := d
 obtain ⟨b1, b2, b3, b4, b5, b6, b7, b8⟩ := e
 unfold deq
 simp only [Bool.and_eq_true, beq_iff_eq, De.mk.injEq]
 constructor
 ·rintro ⟨h1, h2, h3, h4, h5, h6, h7, h8⟩
  exact ⟨h1, ba_ext h2, ba_ext h3, h4, h5, ba_ext h6, h7, h8⟩
 ·rintro ⟨h1, h2, h3, h4, h5, h6, h7, h8⟩
  exact ⟨h1, by rw [h2], by rw [h3], h4, h5, by rw [h6], h7, h8⟩
theorem texts_deq {d e : De} {T U : ByteArray} (hd : d.wf) (he : e.wf) (md : mayD d) (me : mayD e) (hT : T = putV 3 0 ⟨#[]⟩ d.parts) (hU : U = putV 3 0 ⟨#[]⟩ e.parts) : (T.toList == U.toList) = deq d e := by
 rw [Bool.eq_iff_iff, deq_iff, beq_iff_eq]
 constructor
 ·intro h
  have h1 : T = U := ba_ext h
  have t1 := De.trip hd md ⟨#[]⟩
  have t2 := De.trip he me ⟨#[]⟩
  rw [← hT] at t1
  rw [← hU, ← h1] at t2
  rw [t1] at t2
  simp only [Except.ok.injEq, G.mk.injEq] at t2
  exact De.parts_inj t2.2.2.2.1
 ·rintro rfl
  rw [hT, hU]
def AllS (A BV BX BY : Nat) (ad : Option Addr) (cap : Nat) (d e : De) (W : World) : Prop :=
 DeC W A d ∧ DeC W (A + 1) e ∧ CelW W BV 3 0 ⟨#[]⟩ ad 8 cap ∧ DeC W BX d ∧ DeC W BY d
theorem AllS.below {A BV BX BY : Nat} {ad : Option Addr} {cap : Nat} {d e : De} {W W' : World} (h : AllS A BV BX BY ad cap d e W) (hb : Below W.heap.size W W') : AllS A BV BX BY ad cap d e W' :=
 ⟨h.1.below hb, h.2.1.below hb, h.2.2.1.below hb, h.2.2.2.1.below hb, h.2.2.2.2.below hb⟩
theorem deedAll_walk (d e : De) (s : ByteArray) (n node : Int) (w : World) (hbg : Begun5True) (h : LibAt w) (hwd : d.wf) (hwe : e.wf) (hn : -9223372036854775808 ≤ n ∧ n ≤ 9223372036854775807) (hnode : -9223372036854775808 ≤ node ∧ node ≤ 9223372036854775807) :
  Calls Tryz.prog 3 #[dagg d, dagg e, .string s, .int .i64 n, .int .i64 node] w fun e w' => e = .returned (.bool true) ∧ Below w.heap.size w w' := by
 have hb0 : ∀ t, Below w.heap.size w ((w.alloc (.cells #[.int .i64 d.kind, .string d.key, .string d.body, .int .i64 d.ver, .int .i64 d.cond, .string d.tag, .int .i64 d.req, .int .i64 d.low] t)).alloc (.cells #[.int .i64 e.kind, .string e.key, .string e.body, .int .i64 e.ver, .int .i64 e.cond, .string e.tag, .int .i64 e.req, .int .i64 e.low] t)) := fun t => ((Below.refl _ _).alloc (Nat.le_refl _) _).alloc (by simp) _
 have HB0 := Lib.hid (hb0 23)
 have HD0 := Lib.hid (TwoD.new w d e 23)
 have HB := Lib.hid (hbg _ (h.below HB0.out))
 have HL := Lib.hid h
 have HCa := Lib.hid (ldeed_p d)
 have HCb := Lib.hid (ldeed_p e)
 have hwa' := cutD_wf hwd
 have hwb' := cutD_wf hwe
 have hba := cutD_bd d
 have hbb := cutD_bd e
 have C1 := Lib.hid (cut_any s 45)
 have hS := cutS_size s 45
 have HK1 := Lib.hid (key_p (cutS s 45))
 have HK2 := Lib.hid (rkey_p (cutS s 45) (by omega))
 have HT1 := Lib.hid (dtag_p (cutS s 45) (by omega))
 have HT2 := Lib.hid (rtag_p (cutS s 45) (by omega))
 have HH1 := Lib.hid (home_p n hn.1 hn.2)
 have HH2 := Lib.hid (rhome_p n)
 have HM1 := Lib.hid (make_p node n hnode.1 hnode.2 hn.1 hn.2)
 have HM2 := Lib.hid (rmake_p node n hnode.1 hnode.2 hn.1 hn.2)
 generalize keyB (cutS s 45) = kb at *
 generalize tagS (cutS s 45) = tg at *
 generalize homeP n = ho at *
 generalize makeP node n = mk at *
 generalize cutS s 45 = S at *
 obtain ⟨kind, key, body, ver, cond, tag, req, low⟩ := d
 obtain ⟨kindq, keyq, bodyq, verq, condq, tagq, reqq, lowq⟩ := e
 generalize cutD ⟨kind, key, body, ver, cond, tag, req, low⟩ = c at *
 generalize cutD ⟨kindq, keyq, bodyq, verq, condq, tagq, reqq, lowq⟩ = c2 at *
 obtain ⟨kind', key', body', ver', cond', tag', req', low'⟩ := c
 obtain ⟨kindz, keyz, bodyz, verz, condz, tagz, reqz, lowz⟩ := c2
 obtain ⟨ba, hbaa, hha⟩ := both_may ⟨kind', key', body', ver', cond', tag', req', low'⟩
 obtain ⟨T, hTs, hT0, hTp, hMa, hRa, hPa⟩ := hha (by dsimp only at hba ⊢; omega) hwa' (by dsimp only at hba ⊢; omega) (by dsimp only at hba ⊢; omega)
 obtain ⟨bb, hbbb, hhb⟩ := both_may ⟨kindz, keyz, bodyz, verz, condz, tagz, reqz, lowz⟩
 obtain ⟨U, hUs, hU0, hUp, hMb, hRb, hPb⟩ := hhb (by dsimp only at hbb ⊢; omega) hwb' (by dsimp only at hbb ⊢; omega) (by dsimp only at hbb ⊢; omega)
 simp only [dagg] at hMa hRa hPa hMb hRb hPb
 have HYa := Lib.hid (And.intro hMa (And.intro hRa hPa))
 have HYb := Lib.hid hPb
 have HQ := Lib.hid (And.intro hbaa (And.intro hbbb (And.intro hT0 (And.intro hU0 (And.intro hTp hUp)))))
 have HWF := Lib.hid (And.intro hwa' (And.intro hwb' (And.intro hba hbb)))
 clear hbg h hwd hwe hb0 hwa' hwb' hba hbb hha hhb hMa hRa hPa hMb hRb hPb hbaa hbbb hT0 hU0 hTp hUp hn hnode
 unfold dagg at *
 dsimp only at *
 go_enter Tryz.func3, Tryz.ntmps3
 go_wp2_with fail
 refine HB.out.mono ?_
 rintro _ w0 ⟨rfl, hb1⟩
 have HB1 := Lib.hid (HB0.out.trans (hb1.mono HB0.out.size))
 have HTW := Lib.hid (HD0.out.below hb1)
 clear hb1 HD0 HB0 HB
 go_wp2_with fail
 have hdr : Below w0.heap.size w0 w0.drew := (Below.refl w0.heap.size w0).drew
 have HT2w := Lib.hid (HTW.out.below hdr)
 have HB2 := Lib.hid (HB1.out.trans (hdr.mono HB1.out.size))
 have hS0 := And.intro HT2w.out.1.1 HT2w.out.2.1
 refine wp_region_D (S := fun L Y => (L.getD 6 false = false → DeC Y w.heap.size ⟨kind, key, body, ver, cond, tag, req, low⟩) ∧ (L.getD 7 false = false → DeC Y (w.heap.size + 1) ⟨kindq, keyq, bodyq, verq, condq, tagq, reqq, lowq⟩)) (by kernel_rfl) ⟨fun _ => hS0.1, fun _ => hS0.2⟩ (fun hS0 => ?_)
 refine wpAnyD_take (i := 0) (v := Value.agg #[.int .i64 kind, .string key, .string body, .int .i64 ver, .int .i64 cond, .string tag, .int .i64 req, .int .i64 low]) rfl (by kernel_rfl) (by kernel_rfl) (by kernel_rfl) (by kernel_rfl) (fun _ _ _ h => h) (fun L w => by simp only [getD_set_ne false (by decide : (0 : Nat) ≠ 6), getD_set_ne false (by decide : (0 : Nat) ≠ 7)]) (by kernel_rfl) hS0 ⟨by rfl, fun L w' hL hD hS => ?_⟩ (fun hS0 => ?_)
 ·obtain ⟨d0, d1, d2, d3, d4, d5, d6, d7⟩ := hS.1 (blocked (j := 6) hD hL (by kernel_rfl))
  dsimp only at d0 d1 d2 d3 d4 d5 d6 d7
  refine .inl ?_
  go_simp
 refine wpAnyD_take (i := 2) (v := Value.agg #[.int .i64 kindq, .string keyq, .string bodyq, .int .i64 verq, .int .i64 condq, .string tagq, .int .i64 reqq, .int .i64 lowq]) rfl (by kernel_rfl) (by kernel_rfl) (by kernel_rfl) (by kernel_rfl) (fun _ _ _ h => h) (fun L w => by simp only [getD_set_ne false (by decide : (2 : Nat) ≠ 6), getD_set_ne false (by decide : (2 : Nat) ≠ 7)]) (by kernel_rfl) hS0 ⟨by rfl, fun L w' hL hD hS => ?_⟩ (fun hS0 => ?_)
 ·obtain ⟨d0, d1, d2, d3, d4, d5, d6, d7⟩ := hS.2 (blocked (j := 7) hD hL (by kernel_rfl))
  dsimp only at d0 d1 d2 d3 d4 d5 d6 d7
  refine .inl ?_
  go_simp
 refine wpAnyD_take (i := 4) (v := Value.string s) rfl (by kernel_rfl) (by kernel_rfl) (by kernel_rfl) (by kernel_rfl) (fun _ _ _ h => h) (fun L w => by simp only [getD_set_ne false (by decide : (4 : Nat) ≠ 6), getD_set_ne false (by decide : (4 : Nat) ≠ 7)]) (by kernel_rfl) hS0 ⟨by rfl, fun L w' hL hD hS => ?_⟩ (fun hS0 => ?_)
 ·refine .inl ?_
  go_simp
 simp only [List.getElem_toArray, List.getElem_cons_succ, List.getElem_cons_zero, Act.put, List.setIfInBounds_toArray, List.set_cons_zero, List.set_cons_succ]
 refine wpAnyD_one (i := 1) (by kernel_rfl) rfl (by kernel_rfl) (fun K hK => ?_)
 simp only [List.getElem_toArray, List.getElem_cons_succ, List.getElem_cons_zero]
 go_simp
 refine (HCa.out _).mono ?_
 rintro _ w1 ⟨rfl, hb2⟩
 have HT3 := Lib.hid (HT2w.out.below hb2)
 have HB3 := Lib.hid (HB2.out.trans (hb2.mono HB2.out.size))
 refine hK.out _ _ ⟨fun _ => HT3.out.1.1, fun _ => HT3.out.2.1⟩ (fun hS0 => ?_)
 clear hK hb2 HB2 HT2w
 refine wpAnyD_one (i := 3) (by kernel_rfl) rfl (by kernel_rfl) (fun K hK => ?_)
 simp only [List.getElem_toArray, List.getElem_cons_succ, List.getElem_cons_zero]
 go_simp
 refine (HCb.out _).mono ?_
 rintro _ w2 ⟨rfl, hb2⟩
 have HT4 := Lib.hid (HT3.out.below hb2)
 have HB4 := Lib.hid (HB3.out.trans (hb2.mono HB3.out.size))
 refine hK.out _ _ ⟨fun _ => HT4.out.1.1, fun _ => HT4.out.2.1⟩ (fun hS0 => ?_)
 clear hK hb2 HB3 HT3
 refine wpAnyD_take (i := 5) (v := Value.string S) rfl (by kernel_rfl) (by kernel_rfl) (by kernel_rfl) (by kernel_rfl) (fun _ _ _ h => h) (fun L w => by simp only [getD_set_ne false (by decide : (5 : Nat) ≠ 6), getD_set_ne false (by decide : (5 : Nat) ≠ 7)]) (by kernel_rfl) hS0 ⟨by rfl, fun L w' hL hD hS => ?_⟩ (fun hS0 => ?_)
 ·refine .inr ⟨_, _, by first | rfl | (go_simp; rfl) | go_simp, (C1.out w').mono (fun e w'' h => ⟨h.1, h.2⟩)⟩
 obtain ⟨d0, d1, d2, d3, d4, d5, d6, d7⟩ := HT4.out.1.1
 obtain ⟨f0, f1, f2, f3, f4, f5, f6, f7⟩ := HT4.out.1.2
 dsimp only at d0 d1 d2 d3 d4 d5 d6 d7
 have HW := Lib.hid (And.intro (And.intro (putD_de HT4.out.1.1 HT4.out.1.2 ⟨kind', key', body', ver', cond', tag', req', low'⟩) (putD_w HT4.out.1.2 ⟨kind', key', body', ver', cond', tag', req', low'⟩)) (And.intro (putD_other HT4.out.2.1 HT4.out.2.2 (show w.heap.size ≠ w.heap.size + 1 by omega) ⟨kind', key', body', ver', cond', tag', req', low'⟩) (putD_below HB4.out (Nat.le_refl _) ⟨kind', key', body', ver', cond', tag', req', low'⟩)))
 dsimp only at HW
 refine wpAnyD_one (i := 6) (by kernel_rfl) rfl (by kernel_rfl) (fun K hK => ?_)
 simp only [List.getElem_toArray, List.getElem_cons_succ, List.getElem_cons_zero]
 go_simp
 refine hK.out _ _ ⟨fun h => (by cases h), fun _ => HW.out.2.1.1⟩ (fun hS0 => ?_)
 clear hK d0 d1 d2 d3 d4 d5 d6 d7 f0 f1 f2 f3 f4 f5 f6 f7 hS0 HT4 HB4
 generalize ((((((((w2.setCell ⟨w.heap.size, 0, none⟩ (.int .i64 kind')).setCell ⟨w.heap.size, 1, none⟩ (.string key')).setCell ⟨w.heap.size, 2, none⟩ (.string body')).setCell ⟨w.heap.size, 3, none⟩ (.int .i64 ver')).setCell ⟨w.heap.size, 4, none⟩ (.int .i64 cond')).setCell ⟨w.heap.size, 5, none⟩ (.string tag')).setCell ⟨w.heap.size, 6, none⟩ (.int .i64 req')).setCell ⟨w.heap.size, 7, none⟩ (.int .i64 low')) = W3 at *
 obtain ⟨d0, d1, d2, d3, d4, d5, d6, d7⟩ := HW.out.2.1.1
 obtain ⟨f0, f1, f2, f3, f4, f5, f6, f7⟩ := HW.out.2.1.2
 dsimp only at d0 d1 d2 d3 d4 d5 d6 d7
 have HX := Lib.hid (And.intro (And.intro (putD_de HW.out.2.1.1 HW.out.2.1.2 ⟨kindz, keyz, bodyz, verz, condz, tagz, reqz, lowz⟩) (putD_w HW.out.2.1.2 ⟨kindz, keyz, bodyz, verz, condz, tagz, reqz, lowz⟩)) (And.intro (putD_other HW.out.1.1 HW.out.1.2 (show w.heap.size + 1 ≠ w.heap.size by omega) ⟨kindz, keyz, bodyz, verz, condz, tagz, reqz, lowz⟩) (putD_below HW.out.2.2 (show w.heap.size ≤ w.heap.size + 1 by omega) ⟨kindz, keyz, bodyz, verz, condz, tagz, reqz, lowz⟩)))
 dsimp only at HX
 refine wpAnyD_one (i := 7) (by kernel_rfl) rfl (by kernel_rfl) (fun K hK => ?_)
 simp only [List.getElem_toArray, List.getElem_cons_succ, List.getElem_cons_zero]
 go_simp
 refine hK.out _ _ ⟨fun h => (by cases h), fun h => (by cases h)⟩ (fun hS0 => ?_)
 clear hK d0 d1 d2 d3 d4 d5 d6 d7 f0 f1 f2 f3 f4 f5 f6 f7
 refine wpAnyD_take (i := 8) (v := Value.string S) rfl (by kernel_rfl) (by kernel_rfl) (by kernel_rfl) (by kernel_rfl) (fun _ _ _ h => h) (fun L w => by simp only [getD_set_ne false (by decide : (8 : Nat) ≠ 6), getD_set_ne false (by decide : (8 : Nat) ≠ 7)]) (by kernel_rfl) hS0 ⟨by rfl, fun L w' hL hD hS => ?_⟩ (fun hS0 => ?_)
 ·refine .inl ?_
  go_simp
 refine wpAnyD_done (by kernel_rfl) ?_ _
 clear hS0
 generalize ((((((((W3.setCell ⟨w.heap.size + 1, 0, none⟩ (.int .i64 kindz)).setCell ⟨w.heap.size + 1, 1, none⟩ (.string keyz)).setCell ⟨w.heap.size + 1, 2, none⟩ (.string bodyz)).setCell ⟨w.heap.size + 1, 3, none⟩ (.int .i64 verz)).setCell ⟨w.heap.size + 1, 4, none⟩ (.int .i64 condz)).setCell ⟨w.heap.size + 1, 5, none⟩ (.string tagz)).setCell ⟨w.heap.size + 1, 6, none⟩ (.int .i64 reqz)).setCell ⟨w.heap.size + 1, 7, none⟩ (.int .i64 lowz)) = V at *
 have HV : Hid (TwoD V w.heap.size ⟨kind', key', body', ver', cond', tag', req', low'⟩ ⟨kindz, keyz, bodyz, verz, condz, tagz, reqz, lowz⟩ ∧ Below w.heap.size w V) := Lib.hid ⟨⟨HX.out.2.1, HX.out.1⟩, HX.out.2.2⟩
 clear HX HW HCa HCb C1 HTW HB1 hdr
 obtain ⟨d0, d1, d2, d3, d4, d5, d6, d7⟩ := HV.out.1.1.1
 dsimp only at d0 d1 d2 d3 d4 d5 d6 d7
 have HLV := Lib.hid (HL.out.below HV.out.2)
 have y1 : Hid (∀ d os, Calls Tryz.prog 12 #[.string S] (Go.Sort.grow (redrawn V d) os) fun e w'' => e = .returned (.bool kb) ∧ ∃ p : Regrown, w'' = Go.Sort.grow (redrawn V p.d) p.os) := Lib.hid (fun d os => Calls.regrown_of (HK1.out _))
 have y2 : Hid (∀ d os, Calls Tryz.prog 13 #[.string S] (Go.Sort.grow (redrawn V d) os) fun e w'' => e = .returned (.bool kb) ∧ ∃ p : Regrown, w'' = Go.Sort.grow (redrawn V p.d) p.os) := Lib.hid (fun d os => Calls.regrown_of (((HK2.out _).mono (fun e w' h => ⟨h.1, h.2 ▸ Below.refl _ _⟩))))
 have y3 : Hid (∀ d os, Calls Tryz.prog 14 #[.int .i64 n] (Go.Sort.grow (redrawn V d) os) fun e w'' => e = .returned (.int .i64 ho) ∧ ∃ p : Regrown, w'' = Go.Sort.grow (redrawn V p.d) p.os) := Lib.hid (fun d os => Calls.regrown_of (((HH1.out _).mono (fun e w' h => ⟨h.1, h.2 ▸ Below.refl _ _⟩))))
 have y4 : Hid (∀ d os, Calls Tryz.prog 15 #[.int .i64 n] (Go.Sort.grow (redrawn V d) os) fun e w'' => e = .returned (.int .i64 ho) ∧ ∃ p : Regrown, w'' = Go.Sort.grow (redrawn V p.d) p.os) := Lib.hid (fun d os => Calls.regrown_of (((HH2.out _).mono (fun e w' h => ⟨h.1, h.2 ▸ Below.refl _ _⟩))))
 have y5 : Hid (∀ d os, Calls Tryz.prog 16 #[.int .i64 node, .int .i64 n] (Go.Sort.grow (redrawn V d) os) fun e w'' => e = .returned (.int .i64 mk) ∧ ∃ p : Regrown, w'' = Go.Sort.grow (redrawn V p.d) p.os) := Lib.hid (fun d os => Calls.regrown_of (((HM1.out _).mono (fun e w' h => ⟨h.1, h.2 ▸ Below.refl _ _⟩))))
 have y6 : Hid (∀ d os, Calls Tryz.prog 17 #[.int .i64 node, .int .i64 n] (Go.Sort.grow (redrawn V d) os) fun e w'' => e = .returned (.int .i64 mk) ∧ ∃ p : Regrown, w'' = Go.Sort.grow (redrawn V p.d) p.os) := Lib.hid (fun d os => Calls.regrown_of (((HM2.out _).mono (fun e w' h => ⟨h.1, h.2 ▸ Below.refl _ _⟩))))
 have y7 : Hid (∀ d os, Calls Tryz.prog 18 #[.agg #[.int .i64 kind', .string key', .string body', .int .i64 ver', .int .i64 cond', .string tag', .int .i64 req', .int .i64 low']] (Go.Sort.grow (redrawn V d) os) fun e w'' => e = .returned (.bool ba) ∧ ∃ p : Regrown, w'' = Go.Sort.grow (redrawn V p.d) p.os) := Lib.hid (fun d os => Calls.regrown_of (HYa.out.1 _ (HLV.out.below (below_regrown V d os))))
 have y8 : Hid (∀ d os, Calls Tryz.prog 19 #[.agg #[.int .i64 kind', .string key', .string body', .int .i64 ver', .int .i64 cond', .string tag', .int .i64 req', .int .i64 low']] (Go.Sort.grow (redrawn V d) os) fun e w'' => e = .returned (.bool ba) ∧ ∃ p : Regrown, w'' = Go.Sort.grow (redrawn V p.d) p.os) := Lib.hid (fun d os => Calls.regrown_of (HYa.out.2.1 _))
 have y9 : Hid (∀ d os, Calls Tryz.prog 20 #[.string S] (Go.Sort.grow (redrawn V d) os) fun e w'' => e = .returned (.string tg) ∧ ∃ p : Regrown, w'' = Go.Sort.grow (redrawn V p.d) p.os) := Lib.hid (fun d os => Calls.regrown_of (HT1.out _ (HLV.out.below (below_regrown V d os)).1))
 have y10 : Hid (∀ d os, Calls Tryz.prog 21 #[.string S] (Go.Sort.grow (redrawn V d) os) fun e w'' => e = .returned (.string tg) ∧ ∃ p : Regrown, w'' = Go.Sort.grow (redrawn V p.d) p.os) := Lib.hid (fun d os => Calls.regrown_of (HT2.out _))
 have q0 := cell_regrown d0
 have q1 := cell_regrown d1
 have q2 := cell_regrown d2
 have q3 := cell_regrown d3
 have q4 := cell_regrown d4
 have q5 := cell_regrown d5
 have q6 := cell_regrown d6
 have q7 := cell_regrown d7
 clear d0 d1 d2 d3 d4 d5 d6 d7
 go_wp2_with fail
 refine wp_region_quiet_below (by kernel_rfl) (by kernel_rfl) ?_
 repeat (quiet_step (first | (go_at_call 12; exact y1.out _ _) | (go_at_call 13; exact y2.out _ _) | (go_at_call 14; exact y3.out _ _) | (go_at_call 15; exact y4.out _ _) | (go_at_call 16; exact y5.out _ _) | (go_at_call 17; exact y6.out _ _) | (go_at_call 18; exact y7.out _ _) | (go_at_call 19; exact y8.out _ _) | (go_at_call 20; exact y9.out _ _) | (go_at_call 21; exact y10.out _ _)))
 refine wpQuiet_nil ?_
 intro _ hw'
 obtain ⟨⟨dq, osq⟩, hw''⟩ := hw'
 subst hw''
 have hE := below_regrown V dq osq
 have HV2 : Hid (TwoD (Go.Sort.grow (redrawn V dq) osq) w.heap.size ⟨kind', key', body', ver', cond', tag', req', low'⟩ ⟨kindz, keyz, bodyz, verz, condz, tagz, reqz, lowz⟩ ∧ Below w.heap.size w (Go.Sort.grow (redrawn V dq) osq)) := Lib.hid ⟨HV.out.1.below hE, HV.out.2.trans (hE.mono HV.out.2.size)⟩
 clear q0 q1 q2 q3 q4 q5 q6 q7 y1 y2 y3 y4 y5 y6 y7 y8 y9 y10 hE HLV HV
 generalize Go.Sort.grow (redrawn V dq) osq = V2 at *
 go_wp2_with fail
 have HLV := Lib.hid (HL.out.below HV2.out.2)
 have y1 : Hid (∀ d os, Calls Tryz.prog 22 #[.agg #[.int .i64 kind', .string key', .string body', .int .i64 ver', .int .i64 cond', .string tag', .int .i64 req', .int .i64 low']] (Go.Sort.grow (redrawn V2 d) os) fun e w'' => e = .returned (.string T) ∧ ∃ p : Regrown, w'' = Go.Sort.grow (redrawn V2 p.d) p.os) := Lib.hid (fun d os => Calls.regrown_of (HYa.out.2.2 _ (HLV.out.below (below_regrown V2 d os))))
 have y2 : Hid (∀ d os, Calls Tryz.prog 22 #[.agg #[.int .i64 kindz, .string keyz, .string bodyz, .int .i64 verz, .int .i64 condz, .string tagz, .int .i64 reqz, .int .i64 lowz]] (Go.Sort.grow (redrawn V2 d) os) fun e w'' => e = .returned (.string U) ∧ ∃ p : Regrown, w'' = Go.Sort.grow (redrawn V2 p.d) p.os) := Lib.hid (fun d os => Calls.regrown_of (HYb.out _ (HLV.out.below (below_regrown V2 d os))))
 obtain ⟨d0, d1, d2, d3, d4, d5, d6, d7⟩ := HV2.out.1.1.1
 obtain ⟨g0, g1, g2, g3, g4, g5, g6, g7⟩ := HV2.out.1.2.1
 dsimp only at d0 d1 d2 d3 d4 d5 d6 d7 g0 g1 g2 g3 g4 g5 g6 g7
 have q0 := cell_regrown d0
 have r0 := cell_regrown g0
 have q1 := cell_regrown d1
 have r1 := cell_regrown g1
 have q2 := cell_regrown d2
 have r2 := cell_regrown g2
 have q3 := cell_regrown d3
 have r3 := cell_regrown g3
 have q4 := cell_regrown d4
 have r4 := cell_regrown g4
 have q5 := cell_regrown d5
 have r5 := cell_regrown g5
 have q6 := cell_regrown d6
 have r6 := cell_regrown g6
 have q7 := cell_regrown d7
 have r7 := cell_regrown g7
 clear d0 d1 d2 d3 d4 d5 d6 d7 g0 g1 g2 g3 g4 g5 g6 g7
 refine wp_region_quiet_below (by kernel_rfl) (by kernel_rfl) ?_
 repeat (quiet_step (first | (go_at_call 22; exact y1.out _ _) | (go_at_call 22; exact y2.out _ _)))
 refine wpQuiet_nil ?_
 intro _ hw'
 obtain ⟨⟨dq, osq⟩, hw''⟩ := hw'
 subst hw''
 have hE := below_regrown V2 dq osq
 have HV3 : Hid (TwoD (Go.Sort.grow (redrawn V2 dq) osq) w.heap.size ⟨kind', key', body', ver', cond', tag', req', low'⟩ ⟨kindz, keyz, bodyz, verz, condz, tagz, reqz, lowz⟩ ∧ Below w.heap.size w (Go.Sort.grow (redrawn V2 dq) osq)) := Lib.hid ⟨HV2.out.1.below hE, HV2.out.2.trans (hE.mono HV2.out.2.size)⟩
 clear q0 q1 q2 q3 q4 q5 q6 q7 r0 r1 r2 r3 r4 r5 r6 r7 y1 y2 hE HLV HV2
 generalize Go.Sort.grow (redrawn V2 dq) osq = V3 at *
 obtain ⟨d0, d1, d2, d3, d4, d5, d6, d7⟩ := HV3.out.1.1.1
 dsimp only at d0 d1 d2 d3 d4 d5 d6 d7
 go_wp2_with fail
 refine (HYa.out.2.1 _).mono ?_
 rintro _ w4 ⟨rfl, hb4⟩
 have HV4 : Hid (TwoD w4 w.heap.size ⟨kind', key', body', ver', cond', tag', req', low'⟩ ⟨kindz, keyz, bodyz, verz, condz, tagz, reqz, lowz⟩ ∧ Below w.heap.size w w4) := Lib.hid ⟨HV3.out.1.below hb4, HV3.out.2.trans (hb4.mono HV3.out.2.size)⟩
 clear hb4 HV3 d0 d1 d2 d3 d4 d5 d6 d7
 cases ba with
 | false =>
  have hT := HQ.out.2.2.1.2 rfl
  obtain rfl := ba_size0 hT
  clear hT
  go_wp2_with fail
  go_ret
  exact ⟨rfl, HV4.out.2⟩
 | true =>
  have hmD := HQ.out.1.1 rfl
  have hTp := HQ.out.2.2.2.2.1 rfl
  have hwfa := HWF.out.1
  have HU : Hid ((bb = false → U = ⟨#[]⟩) ∧ (bb = true → U.toList.isEmpty = false ∧ (T.toList == U.toList) = deq ⟨kind', key', body', ver', cond', tag', req', low'⟩ ⟨kindz, keyz, bodyz, verz, condz, tagz, reqz, lowz⟩)) := Lib.hid ⟨fun h => ba_size0 (HQ.out.2.2.2.1.2 h), fun h => ⟨isEmpty_ne (fun e => by have := HQ.out.2.2.2.1.1 e; rw [h] at this; cases this), texts_deq hwfa HWF.out.2.1 hmD (HQ.out.2.1.1 h) hTp (HQ.out.2.2.2.2.2 h)⟩⟩
  have hbd := mayD_bd hmD
  dsimp only at hbd
  have hpos := De.putV_pos hwfa (by dsimp only; omega) (by dsimp only; omega) (by dsimp only; omega)
  have HVL := Lib.hid (fun W (hl : LibAt W) => dval_p ⟨kind', key', body', ver', cond', tag', req', low'⟩ true ⟨fun _ => hmD, fun _ => rfl⟩ hwfa W hl.1 hl.2.1)
  have HG := Lib.hid (fun W (hl : LibAt W) => dget_p T (by omega) W hl)
  have HGA : Hid (∀ r : Option De, (∀ d, r = some d ↔ (mayD d ∧ d.wf ∧ T = putV 3 0 ⟨#[]⟩ d.parts)) → r = some ⟨kind', key', body', ver', cond', tag', req', low'⟩) := Lib.hid (fun r hr => (hr _).2 ⟨hmD, hwfa, hTp⟩)
  have HOA : Hid (∀ r : Option De, (∀ d, r = some d ↔ (mayD d ∧ (3 : Int) = 3 ∧ (0 : Int) = 0 ∧ (⟨#[]⟩ : ByteArray) = ⟨#[]⟩ ∧ De.parts ⟨kind', key', body', ver', cond', tag', req', low'⟩ = d.parts)) → r = some ⟨kind', key', body', ver', cond', tag', req', low'⟩) := Lib.hid (fun r hr => (hr _).2 ⟨hmD, rfl, rfl, rfl, rfl⟩)
  have HO := Lib.hid (fun ad cap W (hr : RepG W (fun _ => True) ad (De.parts ⟨kind', key', body', ver', cond', tag', req', low'⟩)) (hl : LibAt W) => dof_p 3 0 ⟨#[]⟩ (De.parts ⟨kind', key', body', ver', cond', tag', req', low'⟩) ad cap W (by simp [De.parts, F.cnt]) (De.parts_wf hwfa) hr hl.1 hl.2.1)
  have HRV := Lib.hid (rval_p ⟨kind', key', body', ver', cond', tag', req', low'⟩)
  have HRP := Lib.hid (fun ad cap W h => rPut_p 3 0 ⟨#[]⟩ (De.parts ⟨kind', key', body', ver', cond', tag', req', low'⟩) ad cap W (De.vmay _) ⟨by decide, by decide⟩ (De.parts_wf hwfa) hpos h)
  rw [← hTp] at HRP
  have HEQ := Lib.hid (fun ad ad2 cap cap2 W (h1 : RepS W ad (De.parts ⟨kind', key', body', ver', cond', tag', req', low'⟩)) (h2 : RepS W ad2 (De.parts ⟨kind', key', body', ver', cond', tag', req', low'⟩)) => eqr_p 3 0 ⟨#[]⟩ (De.parts ⟨kind', key', body', ver', cond', tag', req', low'⟩) ad ad2 cap cap2 W (by rw [De.parts_len]; decide) (fit_parts _) h1 h2)
  have HOF := Lib.hid (fun ad cap W (h1 : RepS W ad (De.parts ⟨kind', key', body', ver', cond', tag', req', low'⟩)) => of_c 3 0 ⟨#[]⟩ (De.parts ⟨kind', key', body', ver', cond', tag', req', low'⟩) ad cap W (by rw [De.parts_len]; decide) (fit_parts _) h1)
  rw [De.parts_len] at HO HRP HEQ HOF
  generalize De.parts ⟨kind', key', body', ver', cond', tag', req', low'⟩ = F0 at *
  clear hmD hTp hwfa hbd hpos
  obtain ⟨d0, d1, d2, d3, d4, d5, d6, d7⟩ := HV4.out.1.1.1
  dsimp only at d0 d1 d2 d3 d4 d5 d6 d7
  unfold dagg at *
  dsimp only at HRV
  go_wp2_with fail
  refine (HVL.out _ (HL.out.below HV4.out.2)).mono ?_
  rintro _ w5 ⟨hb5, ⟨hf, -⟩ | ⟨-, ad, cap, rfl, hg⟩⟩
  ·cases hf
  have hV5 : ∀ ty, CelW (w5.alloc (.cells #[.int .i64 3, .int .i64 0, .string ⟨#[]⟩, .slice ad 8 cap] ty)) w5.heap.size 3 0 ⟨#[]⟩ ad 8 cap := by
   intro ty
   refine ⟨?_, ?_, ?_, ?_⟩ <;> go_simp
  have hb5' : Below w4.heap.size w4 (w5.alloc (.cells #[.int .i64 3, .int .i64 0, .string ⟨#[]⟩, .slice ad 8 cap] 35)) := hb5.alloc hb5.size _
  have HV5 : Hid (TwoD (w5.alloc (.cells #[.int .i64 3, .int .i64 0, .string ⟨#[]⟩, .slice ad 8 cap] 35)) w.heap.size ⟨kind', key', body', ver', cond', tag', req', low'⟩ ⟨kindz, keyz, bodyz, verz, condz, tagz, reqz, lowz⟩ ∧ Below w.heap.size w (w5.alloc (.cells #[.int .i64 3, .int .i64 0, .string ⟨#[]⟩, .slice ad 8 cap] 35)) ∧ CelW (w5.alloc (.cells #[.int .i64 3, .int .i64 0, .string ⟨#[]⟩, .slice ad 8 cap] 35)) w5.heap.size 3 0 ⟨#[]⟩ ad 8 cap ∧ RepG (w5.alloc (.cells #[.int .i64 3, .int .i64 0, .string ⟨#[]⟩, .slice ad 8 cap] 35)) (fun _ => True) ad F0) := Lib.hid ⟨HV4.out.1.below hb5', HV4.out.2.trans (hb5'.mono HV4.out.2.size), hV5 _, hg.to (fun b hb hl => ⟨trivial, heap_alloc_old _ _ hl⟩)⟩
  clear hb5 hb5' hV5 hg HV4 d0 d1 d2 d3 d4 d5 d6 d7 HVL
  go_wp2_with fail
  generalize w5.alloc (.cells #[.int .i64 3, .int .i64 0, .string ⟨#[]⟩, .slice ad 8 cap] 35) = W5 at *
  generalize w5.heap.size = BV at *
  refine (HG.out _ (HL.out.below HV5.out.2.1)).mono ?_
  rintro _ w6 ⟨⟨r, rfl, hr⟩, hb6⟩
  obtain rfl := HGA.out r hr
  clear hr HGA HG
  have h6 := DeC.new w6 ⟨kind', key', body', ver', cond', tag', req', low'⟩ 23
  dsimp only [dagg] at h6 ⊢
  have hb6' : Below W5.heap.size W5 (w6.alloc (.cells #[.int .i64 kind', .string key', .string body', .int .i64 ver', .int .i64 cond', .string tag', .int .i64 req', .int .i64 low'] 23)) := hb6.alloc hb6.size _
  have HV6 : Hid (TwoD (w6.alloc (.cells #[.int .i64 kind', .string key', .string body', .int .i64 ver', .int .i64 cond', .string tag', .int .i64 req', .int .i64 low'] 23)) w.heap.size ⟨kind', key', body', ver', cond', tag', req', low'⟩ ⟨kindz, keyz, bodyz, verz, condz, tagz, reqz, lowz⟩ ∧ Below w.heap.size w (w6.alloc (.cells #[.int .i64 kind', .string key', .string body', .int .i64 ver', .int .i64 cond', .string tag', .int .i64 req', .int .i64 low'] 23)) ∧ CelW (w6.alloc (.cells #[.int .i64 kind', .string key', .string body', .int .i64 ver', .int .i64 cond', .string tag', .int .i64 req', .int .i64 low'] 23)) BV 3 0 ⟨#[]⟩ ad 8 cap ∧ RepG (w6.alloc (.cells #[.int .i64 kind', .string key', .string body', .int .i64 ver', .int .i64 cond', .string tag', .int .i64 req', .int .i64 low'] 23)) (fun _ => True) ad F0 ∧ DeC (w6.alloc (.cells #[.int .i64 kind', .string key', .string body', .int .i64 ver', .int .i64 cond', .string tag', .int .i64 req', .int .i64 low'] 23)) w6.heap.size ⟨kind', key', body', ver', cond', tag', req', low'⟩) := Lib.hid ⟨HV5.out.1.below hb6', HV5.out.2.1.trans (hb6'.mono HV5.out.2.1.size), HV5.out.2.2.1.below hb6', HV5.out.2.2.2.to (fun b hb hl => ⟨trivial, hb6'.block b hl⟩), h6⟩
  obtain ⟨c0, c1, c2, c3⟩ := HV6.out.2.2.1
  clear hb6 hb6' h6 HV5
  go_wp2_with fail
  generalize w6.alloc (.cells #[.int .i64 kind', .string key', .string body', .int .i64 ver', .int .i64 cond', .string tag', .int .i64 req', .int .i64 low'] 23) = W6 at *
  generalize w6.heap.size = BX at *
  refine (HO.out _ _ _ HV6.out.2.2.2.1 (HL.out.below HV6.out.2.1)).mono ?_
  rintro _ w7 ⟨⟨r, rfl, hr⟩, hb7⟩
  obtain rfl := HOA.out r (by simpa using hr)
  clear hr HOA HO c0 c1 c2 c3
  have h7 := DeC.new w7 ⟨kind', key', body', ver', cond', tag', req', low'⟩ 23
  dsimp only [dagg] at h7 ⊢
  have hb7' : Below W6.heap.size W6 (w7.alloc (.cells #[.int .i64 kind', .string key', .string body', .int .i64 ver', .int .i64 cond', .string tag', .int .i64 req', .int .i64 low'] 23)) := hb7.alloc hb7.size _
  have HV7 : Hid (AllS w.heap.size BV BX w7.heap.size ad cap ⟨kind', key', body', ver', cond', tag', req', low'⟩ ⟨kindz, keyz, bodyz, verz, condz, tagz, reqz, lowz⟩ (w7.alloc (.cells #[.int .i64 kind', .string key', .string body', .int .i64 ver', .int .i64 cond', .string tag', .int .i64 req', .int .i64 low'] 23)) ∧ Below w.heap.size w (w7.alloc (.cells #[.int .i64 kind', .string key', .string body', .int .i64 ver', .int .i64 cond', .string tag', .int .i64 req', .int .i64 low'] 23)) ∧ RepG (w7.alloc (.cells #[.int .i64 kind', .string key', .string body', .int .i64 ver', .int .i64 cond', .string tag', .int .i64 req', .int .i64 low'] 23)) (fun _ => True) ad F0) := Lib.hid ⟨⟨(HV6.out.1.below hb7').1.1, (HV6.out.1.below hb7').2.1, HV6.out.2.2.1.below hb7', HV6.out.2.2.2.2.below hb7', h7⟩, HV6.out.2.1.trans (hb7'.mono HV6.out.2.1.size), HV6.out.2.2.2.1.to (fun b hb hl => ⟨trivial, hb7'.block b hl⟩)⟩
  clear hb7 hb7' h7 HV6
  go_wp2_with fail
  generalize w7.alloc (.cells #[.int .i64 kind', .string key', .string body', .int .i64 ver', .int .i64 cond', .string tag', .int .i64 req', .int .i64 low'] 23) = W7 at *
  generalize w7.heap.size = BY at *
  have hHR : RepG W7 (fun _ => True) ad F0 := HV7.out.2.2
  have hdr : Below W7.heap.size W7 W7.drew := (Below.refl W7.heap.size W7).drew
  have hS0 := HV7.out.1.below hdr
  have HVd : Hid (Below w.heap.size w W7.drew ∧ RepG W7.drew (fun _ => True) ad F0) := Lib.hid ⟨HV7.out.2.1.trans (hdr.mono HV7.out.2.1.size), HV7.out.2.2.to (fun b hb hl => ⟨trivial, hdr.block b hl⟩)⟩
  clear hHR hdr
  cases bb with
  | false =>
   obtain rfl := HU.out.1 rfl
   refine wp_region_held (S := AllS w.heap.size BV BX BY ad cap ⟨kind', key', body', ver', cond', tag', req', low'⟩ ⟨kindz, keyz, bodyz, verz, condz, tagz, reqz, lowz⟩) (by kernel_rfl) ?_
   change wpAnyH _ _ _ _ _ _ _ _ (World.drew W7)
   refine tq 0 (.string T) rfl ?_ hS0 ?_
   ·intro w' hS; go_simp
   refine tq 1 (.agg #[.int .i64 kind', .string key', .string body', .int .i64 ver', .int .i64 cond', .string tag', .int .i64 req', .int .i64 low']) rfl ?_ hS0 ?_
   ·intro w' hS; obtain ⟨s0, s1, s2, s3, s4, s5, s6, s7⟩ := hS.1; dsimp only at s0 s1 s2 s3 s4 s5 s6 s7; go_simp
   generalize World.drew W7 = W8 at *
   refine wpAnyH_ready (rs := [2]) (by kernel_rfl) (by simp) ?_
   refine AllReadyH.cons rfl (fun K hK => ?_) AllReadyH.nil
   rw [if_pos (by kernel_rfl)]
   go_simp
   refine (HRV.out W8).mono ?_
   rintro _ w9 ⟨hb9, ad1, cap1, rfl, hg⟩
   have HV9 := Lib.hid (And.intro (HVd.out.1.trans (hb9.mono HVd.out.1.size)) (HVd.out.2.to (w' := w9) (A' := fun _ => True) (fun b _ hl => ⟨trivial, hb9.block b hl⟩)))
   have hg1 := hg.repS
   clear hg HVd
   refine hK.out _ _ (hS0.below hb9) (fun hS0 => ?_)
   clear hK hb9
   refine wpAnyH_ready (rs := [3]) (by kernel_rfl) (by simp) ?_
   refine AllReadyH.cons rfl (fun K hK => ?_) AllReadyH.nil
   rw [if_pos (by kernel_rfl)]
   go_simp
   refine (HRP.out _ _ _ hg1).mono ?_
   rintro _ w10 ⟨rfl, hb9⟩
   have HV10 := Lib.hid (And.intro (HV9.out.1.trans (hb9.mono HV9.out.1.size)) (HV9.out.2.to (w' := w10) (A' := fun _ => True) (fun b _ hl => ⟨trivial, hb9.block b hl⟩)))
   clear HV9 hg1
   refine hK.out _ _ (hS0.below hb9) (fun hS0 => ?_)
   clear hK hb9
   refine tq 4 (.bool true) rfl ?_ hS0 ?_
   ·intro w' hS; go_simp
   refine tq 5 (.bool true) rfl ?_ hS0 ?_
   ·intro w' hS; go_simp
   refine tq 6 (.agg #[.int .i64 3, .int .i64 0, .string ⟨#[]⟩, .slice ad 8 cap]) rfl ?_ hS0 ?_
   ·intro w' hS; obtain ⟨s0, s1, s2, s3⟩ := hS.2.2.1; go_simp
   refine tq 8 (.agg #[.int .i64 kind', .string key', .string body', .int .i64 ver', .int .i64 cond', .string tag', .int .i64 req', .int .i64 low']) rfl ?_ hS0 ?_
   ·intro w' hS; obtain ⟨s0, s1, s2, s3, s4, s5, s6, s7⟩ := hS.1; dsimp only at s0 s1 s2 s3 s4 s5 s6 s7; go_simp
   refine wpAnyH_ready (rs := [7]) (by kernel_rfl) (by simp) ?_
   refine AllReadyH.cons rfl (fun K hK => ?_) AllReadyH.nil
   rw [if_pos (by kernel_rfl)]
   go_simp
   refine (HOF.out _ _ _ HV10.out.2.repS).mono ?_
   rintro _ w11 ⟨hb9, ad2, cap2, rfl, hg⟩
   have HV11 := Lib.hid (And.intro (HV10.out.1.trans (hb9.mono HV10.out.1.size)) (hg.to (w' := w11) (A' := fun _ => True) (fun b _ _ => ⟨trivial, rfl⟩)))
   clear hg HV10
   refine hK.out _ _ (hS0.below hb9) (fun hS0 => ?_)
   clear hK hb9
   refine wpAnyH_ready (rs := [9]) (by kernel_rfl) (by simp) ?_
   refine AllReadyH.cons rfl (fun K hK => ?_) AllReadyH.nil
   rw [if_pos (by kernel_rfl)]
   go_simp
   refine (HRV.out _).mono ?_
   rintro _ w12 ⟨hb9, ad3, cap3, rfl, hg⟩
   have HV12 := Lib.hid (And.intro (HV11.out.1.trans (hb9.mono HV11.out.1.size)) (And.intro (HV11.out.2.to (w' := w12) (A' := fun _ => True) (fun b _ hl => ⟨trivial, hb9.block b hl⟩)) hg.repS))
   clear hg HV11
   refine hK.out _ _ (hS0.below hb9) (fun hS0 => ?_)
   clear hK hb9
   refine wpAnyH_ready (rs := [10]) (by kernel_rfl) (by simp) ?_
   refine AllReadyH.cons rfl (fun K hK => ?_) AllReadyH.nil
   rw [if_pos (by kernel_rfl)]
   go_simp
   refine (HEQ.out _ _ _ _ _ HV12.out.2.1.repS HV12.out.2.2).mono ?_
   rintro _ w13 ⟨rfl, hb9⟩
   have HV13 := Lib.hid (HV12.out.1.trans (hb9.mono HV12.out.1.size))
   clear HV12
   refine hK.out _ _ (hS0.below hb9) (fun hS0 => ?_)
   clear hK hb9
   refine tq 11 (.bool true) rfl ?_ hS0 ?_
   ·intro w' hS; go_simp
   refine tq 12 (.bool true) rfl ?_ hS0 ?_
   ·intro w' hS; go_simp
   refine tq 13 (.int .i64 0) rfl ?_ hS0 ?_
   ·intro w' hS; go_simp
   refine tq 14 (.bool true) rfl ?_ hS0 ?_
   ·intro w' hS; go_simp
   refine tq 15 (.bool true) rfl ?_ hS0 ?_
   ·intro w' hS; go_simp
   refine tq 16 (.bool true) rfl ?_ hS0 ?_
   ·intro w' hS; go_simp
   refine tq 17 (.agg #[.int .i64 kind', .string key', .string body', .int .i64 ver', .int .i64 cond', .string tag', .int .i64 req', .int .i64 low']) rfl ?_ hS0 ?_
   ·intro w' hS; obtain ⟨s0, s1, s2, s3, s4, s5, s6, s7⟩ := hS.2.2.2.1; dsimp only at s0 s1 s2 s3 s4 s5 s6 s7; go_simp
   refine tq 18 (.agg #[.int .i64 kind', .string key', .string body', .int .i64 ver', .int .i64 cond', .string tag', .int .i64 req', .int .i64 low']) rfl ?_ hS0 ?_
   ·intro w' hS; obtain ⟨s0, s1, s2, s3, s4, s5, s6, s7⟩ := hS.1; dsimp only at s0 s1 s2 s3 s4 s5 s6 s7; go_simp
   refine tq 19 (.bool true) rfl ?_ hS0 ?_
   ·intro w' hS; go_simp
   refine tq 20 (.bool true) rfl ?_ hS0 ?_
   ·intro w' hS; go_simp
   refine tq 21 (.bool true) rfl ?_ hS0 ?_
   ·intro w' hS; go_simp
   refine tq 22 (.bool true) rfl ?_ hS0 ?_
   ·intro w' hS; go_simp
   refine tq 23 (.bool true) rfl ?_ hS0 ?_
   ·intro w' hS; go_simp
   refine tq 24 (.bool true) rfl ?_ hS0 ?_
   ·intro w' hS; go_simp
   refine tq 25 (.agg #[.int .i64 kind', .string key', .string body', .int .i64 ver', .int .i64 cond', .string tag', .int .i64 req', .int .i64 low']) rfl ?_ hS0 ?_
   ·intro w' hS; obtain ⟨s0, s1, s2, s3, s4, s5, s6, s7⟩ := hS.2.2.2.2; dsimp only at s0 s1 s2 s3 s4 s5 s6 s7; go_simp
   refine tq 26 (.agg #[.int .i64 kind', .string key', .string body', .int .i64 ver', .int .i64 cond', .string tag', .int .i64 req', .int .i64 low']) rfl ?_ hS0 ?_
   ·intro w' hS; obtain ⟨s0, s1, s2, s3, s4, s5, s6, s7⟩ := hS.1; dsimp only at s0 s1 s2 s3 s4 s5 s6 s7; go_simp
   refine tq 27 (.bool true) rfl ?_ hS0 ?_
   ·intro w' hS; go_simp
   refine tq 28 (.bool true) rfl ?_ hS0 ?_
   ·intro w' hS; go_simp
   refine tq 29 (.bool true) rfl ?_ hS0 ?_
   ·intro w' hS; go_simp
   refine tq 30 (.string ⟨#[]⟩) rfl ?_ hS0 ?_
   ·intro w' hS; go_simp
   refine tq 31 (.bool true) rfl ?_ hS0 ?_
   ·intro w' hS; go_simp
   refine tq 32 (.bool true) rfl ?_ hS0 ?_
   ·intro w' hS; go_simp
   refine wpAnyH_take (i := 33) (v := undef) rfl (by kernel_rfl) (by kernel_rfl) (by kernel_rfl) (fun _ _ _ h => h) (Or.inr ⟨by kernel_rfl, rfl⟩) hS0 ?_
   refine wpAnyH_take (i := 34) (v := undef) rfl (by kernel_rfl) (by kernel_rfl) (by kernel_rfl) (fun _ _ _ h => h) (Or.inr ⟨by kernel_rfl, rfl⟩) hS0 ?_
   refine wpAnyH_take (i := 35) (v := undef) rfl (by kernel_rfl) (by kernel_rfl) (by kernel_rfl) (fun _ _ _ h => h) (Or.inr ⟨by kernel_rfl, rfl⟩) hS0 ?_
   refine wpAnyH_take (i := 36) (v := undef) rfl (by kernel_rfl) (by kernel_rfl) (by kernel_rfl) (fun _ _ _ h => h) (Or.inr ⟨by kernel_rfl, rfl⟩) hS0 ?_
   refine wpAnyH_take (i := 37) (v := undef) rfl (by kernel_rfl) (by kernel_rfl) (by kernel_rfl) (fun _ _ _ h => h) (Or.inr ⟨by kernel_rfl, rfl⟩) hS0 ?_
   refine wpAnyH_take (i := 38) (v := undef) rfl (by kernel_rfl) (by kernel_rfl) (by kernel_rfl) (fun _ _ _ h => h) (Or.inr ⟨by kernel_rfl, rfl⟩) hS0 ?_
   refine wpAnyH_take (i := 39) (v := undef) rfl (by kernel_rfl) (by kernel_rfl) (by kernel_rfl) (fun _ _ _ h => h) (Or.inr ⟨by kernel_rfl, rfl⟩) hS0 ?_
   refine tq 40 (.bool true) rfl ?_ hS0 ?_
   ·intro w' hS; go_simp
   refine tq 41 (.bool true) rfl ?_ hS0 ?_
   ·intro w' hS; go_simp
   refine tq 42 (.bool true) rfl ?_ hS0 ?_
   ·intro w' hS; go_simp
   refine wpAnyH_done (by kernel_rfl) ?_ _
   clear hS0
   go_wp2_with fail
   go_ret
   exact ⟨rfl, HV13.out⟩
  | true =>
   have hU1 := (HU.out.2 rfl).1
   have hU2 := (HU.out.2 rfl).2
   refine wp_region_held (S := AllS w.heap.size BV BX BY ad cap ⟨kind', key', body', ver', cond', tag', req', low'⟩ ⟨kindz, keyz, bodyz, verz, condz, tagz, reqz, lowz⟩) (by kernel_rfl) ?_
   change wpAnyH _ _ _ _ _ _ _ _ (World.drew W7)
   refine tq 0 (.string T) rfl ?_ hS0 ?_
   ·intro w' hS; go_simp
   refine tq 1 (.agg #[.int .i64 kind', .string key', .string body', .int .i64 ver', .int .i64 cond', .string tag', .int .i64 req', .int .i64 low']) rfl ?_ hS0 ?_
   ·intro w' hS; obtain ⟨s0, s1, s2, s3, s4, s5, s6, s7⟩ := hS.1; dsimp only at s0 s1 s2 s3 s4 s5 s6 s7; go_simp
   generalize World.drew W7 = W8 at *
   refine wpAnyH_ready (rs := [2]) (by kernel_rfl) (by simp) ?_
   refine AllReadyH.cons rfl (fun K hK => ?_) AllReadyH.nil
   rw [if_pos (by kernel_rfl)]
   go_simp
   refine (HRV.out W8).mono ?_
   rintro _ w9 ⟨hb9, ad1, cap1, rfl, hg⟩
   have HV9 := Lib.hid (And.intro (HVd.out.1.trans (hb9.mono HVd.out.1.size)) (HVd.out.2.to (w' := w9) (A' := fun _ => True) (fun b _ hl => ⟨trivial, hb9.block b hl⟩)))
   have hg1 := hg.repS
   clear hg HVd
   refine hK.out _ _ (hS0.below hb9) (fun hS0 => ?_)
   clear hK hb9
   refine wpAnyH_ready (rs := [3]) (by kernel_rfl) (by simp) ?_
   refine AllReadyH.cons rfl (fun K hK => ?_) AllReadyH.nil
   rw [if_pos (by kernel_rfl)]
   go_simp
   refine (HRP.out _ _ _ hg1).mono ?_
   rintro _ w10 ⟨rfl, hb9⟩
   have HV10 := Lib.hid (And.intro (HV9.out.1.trans (hb9.mono HV9.out.1.size)) (HV9.out.2.to (w' := w10) (A' := fun _ => True) (fun b _ hl => ⟨trivial, hb9.block b hl⟩)))
   clear HV9 hg1
   refine hK.out _ _ (hS0.below hb9) (fun hS0 => ?_)
   clear hK hb9
   refine tq 4 (.bool true) rfl ?_ hS0 ?_
   ·intro w' hS; go_simp
   refine tq 5 (.bool true) rfl ?_ hS0 ?_
   ·intro w' hS; go_simp
   refine tq 6 (.agg #[.int .i64 3, .int .i64 0, .string ⟨#[]⟩, .slice ad 8 cap]) rfl ?_ hS0 ?_
   ·intro w' hS; obtain ⟨s0, s1, s2, s3⟩ := hS.2.2.1; go_simp
   refine tq 8 (.agg #[.int .i64 kind', .string key', .string body', .int .i64 ver', .int .i64 cond', .string tag', .int .i64 req', .int .i64 low']) rfl ?_ hS0 ?_
   ·intro w' hS; obtain ⟨s0, s1, s2, s3, s4, s5, s6, s7⟩ := hS.1; dsimp only at s0 s1 s2 s3 s4 s5 s6 s7; go_simp
   refine wpAnyH_ready (rs := [7]) (by kernel_rfl) (by simp) ?_
   refine AllReadyH.cons rfl (fun K hK => ?_) AllReadyH.nil
   rw [if_pos (by kernel_rfl)]
   go_simp
   refine (HOF.out _ _ _ HV10.out.2.repS).mono ?_
   rintro _ w11 ⟨hb9, ad2, cap2, rfl, hg⟩
   have HV11 := Lib.hid (And.intro (HV10.out.1.trans (hb9.mono HV10.out.1.size)) (hg.to (w' := w11) (A' := fun _ => True) (fun b _ _ => ⟨trivial, rfl⟩)))
   clear hg HV10
   refine hK.out _ _ (hS0.below hb9) (fun hS0 => ?_)
   clear hK hb9
   refine wpAnyH_ready (rs := [9]) (by kernel_rfl) (by simp) ?_
   refine AllReadyH.cons rfl (fun K hK => ?_) AllReadyH.nil
   rw [if_pos (by kernel_rfl)]
   go_simp
   refine (HRV.out _).mono ?_
   rintro _ w12 ⟨hb9, ad3, cap3, rfl, hg⟩
   have HV12 := Lib.hid (And.intro (HV11.out.1.trans (hb9.mono HV11.out.1.size)) (And.intro (HV11.out.2.to (w' := w12) (A' := fun _ => True) (fun b _ hl => ⟨trivial, hb9.block b hl⟩)) hg.repS))
   clear hg HV11
   refine hK.out _ _ (hS0.below hb9) (fun hS0 => ?_)
   clear hK hb9
   refine wpAnyH_ready (rs := [10]) (by kernel_rfl) (by simp) ?_
   refine AllReadyH.cons rfl (fun K hK => ?_) AllReadyH.nil
   rw [if_pos (by kernel_rfl)]
   go_simp
   refine (HEQ.out _ _ _ _ _ HV12.out.2.1.repS HV12.out.2.2).mono ?_
   rintro _ w13 ⟨rfl, hb9⟩
   have HV13 := Lib.hid (HV12.out.1.trans (hb9.mono HV12.out.1.size))
   clear HV12
   refine hK.out _ _ (hS0.below hb9) (fun hS0 => ?_)
   clear hK hb9
   refine tq 11 (.bool true) rfl ?_ hS0 ?_
   ·intro w' hS; go_simp
   refine tq 12 (.bool true) rfl ?_ hS0 ?_
   ·intro w' hS; go_simp
   refine tq 13 (.int .i64 0) rfl ?_ hS0 ?_
   ·intro w' hS; go_simp
   refine tq 14 (.bool true) rfl ?_ hS0 ?_
   ·intro w' hS; go_simp
   refine tq 15 (.bool true) rfl ?_ hS0 ?_
   ·intro w' hS; go_simp
   refine tq 16 (.bool true) rfl ?_ hS0 ?_
   ·intro w' hS; go_simp
   refine tq 17 (.agg #[.int .i64 kind', .string key', .string body', .int .i64 ver', .int .i64 cond', .string tag', .int .i64 req', .int .i64 low']) rfl ?_ hS0 ?_
   ·intro w' hS; obtain ⟨s0, s1, s2, s3, s4, s5, s6, s7⟩ := hS.2.2.2.1; dsimp only at s0 s1 s2 s3 s4 s5 s6 s7; go_simp
   refine tq 18 (.agg #[.int .i64 kind', .string key', .string body', .int .i64 ver', .int .i64 cond', .string tag', .int .i64 req', .int .i64 low']) rfl ?_ hS0 ?_
   ·intro w' hS; obtain ⟨s0, s1, s2, s3, s4, s5, s6, s7⟩ := hS.1; dsimp only at s0 s1 s2 s3 s4 s5 s6 s7; go_simp
   refine tq 19 (.bool true) rfl ?_ hS0 ?_
   ·intro w' hS; go_simp
   refine tq 20 (.bool true) rfl ?_ hS0 ?_
   ·intro w' hS; go_simp
   refine tq 21 (.bool true) rfl ?_ hS0 ?_
   ·intro w' hS; go_simp
   refine tq 22 (.bool true) rfl ?_ hS0 ?_
   ·intro w' hS; go_simp
   refine tq 23 (.bool true) rfl ?_ hS0 ?_
   ·intro w' hS; go_simp
   refine tq 24 (.bool true) rfl ?_ hS0 ?_
   ·intro w' hS; go_simp
   refine tq 25 (.agg #[.int .i64 kind', .string key', .string body', .int .i64 ver', .int .i64 cond', .string tag', .int .i64 req', .int .i64 low']) rfl ?_ hS0 ?_
   ·intro w' hS; obtain ⟨s0, s1, s2, s3, s4, s5, s6, s7⟩ := hS.2.2.2.2; dsimp only at s0 s1 s2 s3 s4 s5 s6 s7; go_simp
   refine tq 26 (.agg #[.int .i64 kind', .string key', .string body', .int .i64 ver', .int .i64 cond', .string tag', .int .i64 req', .int .i64 low']) rfl ?_ hS0 ?_
   ·intro w' hS; obtain ⟨s0, s1, s2, s3, s4, s5, s6, s7⟩ := hS.1; dsimp only at s0 s1 s2 s3 s4 s5 s6 s7; go_simp
   refine tq 27 (.bool true) rfl ?_ hS0 ?_
   ·intro w' hS; go_simp
   refine tq 28 (.bool true) rfl ?_ hS0 ?_
   ·intro w' hS; go_simp
   refine tq 29 (.bool true) rfl ?_ hS0 ?_
   ·intro w' hS; go_simp
   refine tq 30 (.string U) rfl ?_ hS0 ?_
   ·intro w' hS; go_simp
   refine tq 31 (.bool false) rfl ?_ hS0 ?_
   ·intro w' hS; go_simp
   refine tq 32 (.bool false) rfl ?_ hS0 ?_
   ·intro w' hS; go_simp
   refine tq 33 (.string T) rfl ?_ hS0 ?_
   ·intro w' hS; go_simp
   refine tq 34 (.string U) rfl ?_ hS0 ?_
   ·intro w' hS; go_simp
   refine tq 35 (.bool (deq ⟨kind', key', body', ver', cond', tag', req', low'⟩ ⟨kindz, keyz, bodyz, verz, condz, tagz, reqz, lowz⟩)) rfl ?_ hS0 ?_
   ·intro w' hS; go_simp
   refine tq 36 (.agg #[.int .i64 kind', .string key', .string body', .int .i64 ver', .int .i64 cond', .string tag', .int .i64 req', .int .i64 low']) rfl ?_ hS0 ?_
   ·intro w' hS; obtain ⟨s0, s1, s2, s3, s4, s5, s6, s7⟩ := hS.1; dsimp only at s0 s1 s2 s3 s4 s5 s6 s7; go_simp
   refine tq 37 (.agg #[.int .i64 kindz, .string keyz, .string bodyz, .int .i64 verz, .int .i64 condz, .string tagz, .int .i64 reqz, .int .i64 lowz]) rfl ?_ hS0 ?_
   ·intro w' hS; obtain ⟨s0, s1, s2, s3, s4, s5, s6, s7⟩ := hS.2.1; dsimp only at s0 s1 s2 s3 s4 s5 s6 s7; go_simp
   refine tq 38 (.bool (deq ⟨kind', key', body', ver', cond', tag', req', low'⟩ ⟨kindz, keyz, bodyz, verz, condz, tagz, reqz, lowz⟩)) rfl ?_ hS0 ?_
   ·intro w' hS; go_simp; exact deq_run ⟨kind', key', body', ver', cond', tag', req', low'⟩ ⟨kindz, keyz, bodyz, verz, condz, tagz, reqz, lowz⟩ (fun b => Result.ok (Next.value (Value.bool b)) w')
   refine tq 39 (.bool true) rfl ?_ hS0 ?_
   ·intro w' hS; go_simp
   refine tq 40 (.bool true) rfl ?_ hS0 ?_
   ·intro w' hS; go_simp
   refine tq 41 (.bool true) rfl ?_ hS0 ?_
   ·intro w' hS; go_simp
   refine tq 42 (.bool true) rfl ?_ hS0 ?_
   ·intro w' hS; go_simp
   refine wpAnyH_done (by kernel_rfl) ?_ _
   clear hS0
   go_wp2_with fail
   go_ret
   exact ⟨rfl, HV13.out⟩
end Go.Proofs.YtoealjcjpjapkaaGreatDoor
