/-
 Contracts of the program, and what they rest on.
-/
import Derived.Test.YtlpgphiccjkenaaGreatDoorM14
import Derived.Test.YtlpgphiccjkenaaGreatDoorM05
import Derived.Test.YtlpgphiccjkenaaGreatDoorM20
import Derived.Test.YtlpgphiccjkenaaGreatDoorM27
import Derived.Test.YtlpgphiccjkenaaGreatDoorM08
import Derived.Test.YtlpgphiccjkenaaGreatDoorM06
import Derived.Test.YtlpgphiccjkenaaGreatDoorM03
set_option maxRecDepth 100000
set_option maxHeartbeats 16000000
namespace Go.Proofs.YtlpgphiccjkenaaGreatDoor
open Go.RowKit
def getB (l : List En) (key : ByteArray) (n : Int) : Ve × Int :=
 if (versionE l key n).2 then (if (versionE l key n).1.gone then (Ve.zero, 10) else ((versionE l key n).1, 0)) else (Ve.zero, 6)
theorem bget_p (s : Bk) (key : ByteArray) (n : Int) (u v : Value) (w : World) (h : BAt w s u v) :
  Calls Tryz.prog 19 #[bagg s u v, .string key, .int .i64 n] w fun e w' => e = .returned (.tuple #[veagg (getB s.l key n).1, .int .i64 (getB s.l key n).2]) ∧ Below w.heap.size w w' := by
 obtain ⟨R, hR⟩ : ∃ R, getB s.l key n = R := ⟨_, rfl⟩
 rw [hR]
 unfold getB at hR
 have HP := Lib.hid (fun W (hW : BAt W s u v) => version_p s key n u v W hW)
 obtain ⟨ad, cap, rfl, _⟩ := h.es.shape
 obtain ⟨ad', cap', rfl, _⟩ := h.ms.shape
 have hb0 : Below w.heap.size w ((w.alloc (.cells (bcells s (.slice ad s.l.length cap) (.slice ad' s.ms.length cap')) 27)).alloc (.cells #[.int .i64 0, .bool false, .string ⟨#[]⟩] 55)) := ((Below.refl _ w).alloc (Nat.le_refl _) _).alloc (by simp) _
 have hC : BC ((w.alloc (.cells (bcells s (.slice ad s.l.length cap) (.slice ad' s.ms.length cap')) 27)).alloc (.cells #[.int .i64 0, .bool false, .string ⟨#[]⟩] 55)) w.heap.size s (.slice ad s.l.length cap) (.slice ad' s.ms.length cap') := (BC.new w s _ _).below ((Below.refl _ _).alloc (Nat.le_refl _) _)
 have hV : VC3 ((w.alloc (.cells (bcells s (.slice ad s.l.length cap) (.slice ad' s.ms.length cap')) 27)).alloc (.cells #[.int .i64 0, .bool false, .string ⟨#[]⟩] 55)) (w.heap.size + 1) Ve.zero := by
  have := VC3.new (w.alloc (.cells (bcells s (.slice ad s.l.length cap) (.slice ad' s.ms.length cap')) 27)) Ve.zero 55
  rw [show (w.alloc (.cells (bcells s (.slice ad s.l.length cap) (.slice ad' s.ms.length cap')) 27)).heap.size = w.heap.size + 1 by simp] at this
  exact this
 have HB := Lib.hid hb0
 have HQ := Lib.hid (HP.out _ (h.below hb0))
 have HV := Lib.hid hV
 have HR := Lib.hid hR
 obtain ⟨q0, q1, q2, q3, q4, q5, q6, q7⟩ := hC.cells
 clear h hb0 hR hC hV HP
 unfold bagg vtup at HQ
 unfold bagg veagg
 unfold bcells at *
 generalize versionE s.l key n = Q at *
 go_enter Tryz.func19, Tryz.ntmps19
 go_wp2_with fail
 refine HQ.out.mono ?_
 rintro _ w1 ⟨rfl, hb1⟩
 have HB1 := Lib.hid (HB.out.trans (hb1.mono HB.out.size))
 have hV1 := HV.out.below hb1
 have hs1 : w.heap.size + 1 < w1.heap.size := hV1.lt
 have hne : ¬ w.heap.size + 1 = w1.heap.size := by omega
 have hne2 : ¬ w1.heap.size = w.heap.size + 1 := by omega
 clear hb1 q0 q1 q2 q3 q4 q5 q6 q7
 have HF : Hid (∀ r : Ve, VC3 ((((w1.setCell ⟨w.heap.size + 1, 0, none⟩ (.int .i64 r.ver)).setCell ⟨w.heap.size + 1, 1, none⟩ (.bool r.gone)).setCell ⟨w.heap.size + 1, 2, none⟩ (.string r.body)).alloc (.cells #[.int .i64 Q.1.ver, .bool Q.1.gone, .string Q.1.body] 55)) (w.heap.size + 1) r ∧ Below w.heap.size w ((((w1.setCell ⟨w.heap.size + 1, 0, none⟩ (.int .i64 r.ver)).setCell ⟨w.heap.size + 1, 1, none⟩ (.bool r.gone)).setCell ⟨w.heap.size + 1, 2, none⟩ (.string r.body)).alloc (.cells #[.int .i64 Q.1.ver, .bool Q.1.gone, .string Q.1.body] 55))) := Lib.hid (fun r => ⟨(putV_ve hV1 r).below ((Below.refl _ _).alloc (Nat.le_refl _) _), (((HB1.out.setCell (p := ⟨w.heap.size + 1, 0, none⟩) (by simp) _).setCell (p := ⟨w.heap.size + 1, 1, none⟩) (by simp) _).setCell (p := ⟨w.heap.size + 1, 2, none⟩) (by simp) _).alloc (by simp; omega) _⟩)
 obtain ⟨⟨a0, a1, a2⟩, b0, b1, b2⟩ := hV1
 dsimp only [Ve.zero] at a0 a1 a2
 obtain ⟨Qv, Qb⟩ := Q
 dsimp only at HF HR ⊢
 have hR := HR.out
 cases Qb with
 | false =>
  obtain rfl : R = (Ve.zero, 6) := by rw [← hR]; rfl
  clear hR
  go_wp2_with fail
  obtain ⟨⟨⟨t0, t1, t2⟩, _⟩, hfb⟩ := HF.out Ve.zero
  dsimp only [Ve.zero] at t0 t1 t2 hfb
  exact bodyPost_ret (v := .tuple #[.agg #[.int .i64 0, .bool false, .string ⟨#[]⟩], .int .i64 6]) (by simp [results, Tryz.results19, go_sem, t0, t1, t2]) rfl ⟨rfl, hfb⟩
 | true =>
  cases hg : Qv.gone with
  | true =>
   obtain rfl : R = (Ve.zero, 10) := by rw [← hR, hg]; rfl
   clear hR
   rw [hg] at HF
   go_wp2_with fail
   obtain ⟨⟨⟨t0, t1, t2⟩, _⟩, hfb⟩ := HF.out Ve.zero
   dsimp only [Ve.zero] at t0 t1 t2 hfb
   exact bodyPost_ret (v := .tuple #[.agg #[.int .i64 0, .bool false, .string ⟨#[]⟩], .int .i64 10]) (by simp [results, Tryz.results19, go_sem, t0, t1, t2]) rfl ⟨rfl, hfb⟩
  | false =>
   obtain rfl : R = (Qv, 0) := by rw [← hR, hg]; rfl
   clear hR
   rw [hg] at HF
   go_wp2_with fail
   obtain ⟨⟨⟨t0, t1, t2⟩, _⟩, hfb⟩ := HF.out Qv
   rw [hg] at t0 t1 t2 hfb
   exact bodyPost_ret (v := .tuple #[.agg #[.int .i64 Qv.ver, .bool false, .string Qv.body], .int .i64 0]) (by simp [results, Tryz.results19, go_sem, t0, t1, t2]) rfl ⟨by simp, hfb⟩
theorem dec_m5 : decS (-5) = ⟨#[45, 53]⟩ := by
 unfold decS Lib.itoa
 rw [if_pos (by decide), show (-5 : Int).natAbs = 5 from rfl, Lib.decDigits_one (by decide)]
 rfl
theorem dec_2 : decS 2 = ⟨#[50]⟩ := by
 unfold decS Lib.itoa
 rw [if_neg (by decide), show (2 : Int).toNat = 2 from rfl, Lib.decDigits_one (by decide)]
 rfl
theorem dec_10 : decS 10 = ⟨#[49, 48]⟩ := by
 unfold decS Lib.itoa
 rw [if_neg (by decide), show (10 : Int).toNat = 10 from rfl, Lib.decDigits_two (by decide) (by decide)]
 rfl
def BL : F := .cons 1 (-5) ⟨#[]⟩ .nil (.cons 2 0 ⟨#[97, 98]⟩ .nil .nil)
def BT : ByteArray := ⟨#[49, 48, 58, 50, 58, 45, 53, 35, 50, 58, 97, 98, 44, 93]⟩
theorem bl_may : vmay 3 0 ⟨#[]⟩ BL = true := by decide +kernel
theorem bl_a : putV 1 (-5) ⟨#[]⟩ .nil = ⟨#[50, 58, 45, 53, 35]⟩ := by
 unfold putV
 rw [if_pos rfl, dec_m5]
 unfold frameS
 rw [if_pos (by decide), show (((⟨#[45, 53]⟩ : ByteArray).size : Nat) : Int) = 2 from rfl, dec_2]
 rfl
theorem bl_b : putV 2 0 ⟨#[97, 98]⟩ .nil = ⟨#[50, 58, 97, 98, 44]⟩ := by
 unfold putV
 rw [if_neg (by decide), if_pos rfl]
 unfold frameS
 rw [if_pos (by decide), show (((⟨#[97, 98]⟩ : ByteArray).size : Nat) : Int) = 2 from rfl, dec_2]
 rfl
theorem bl_put : putS 3 0 ⟨#[]⟩ BL = BT := by
 unfold putS
 rw [if_pos bl_may]
 unfold putV
 rw [if_neg (by decide), if_neg (by decide)]
 have h : putF BL ⟨#[]⟩ = some ⟨#[50, 58, 45, 53, 35, 50, 58, 97, 98, 44]⟩ := by
  unfold BL
  rw [putF_cons, bl_a, if_neg (by decide), putF_cons, bl_b, if_neg (by decide)]
  rfl
 rw [h]
 show frameS _ _ = _
 unfold frameS
 rw [if_pos (by decide), show (((⟨#[50, 58, 45, 53, 35, 50, 58, 97, 98, 44]⟩ : ByteArray).size : Nat) : Int) = 10 from rfl, dec_10]
 rfl
theorem num_m5 : numP ⟨#[45, 53]⟩ = some (-5) := by
 unfold numP
 rw [show Lib.parseIntB 64 (⟨#[45, 53]⟩ : ByteArray).data.toList = .ok (-5) from by decide +kernel]
 simp only [dec_m5, if_true]
theorem get_a (m : Int) (hm : ¬ m = 0) (d : Nat) : getP (d + 1) ⟨#[50, 58, 45, 53, 35, 50, 58, 97, 98, 44]⟩ m = .ok ⟨1, -5, ⟨#[]⟩, .nil, 5, 1⟩ := by
 have hc : cutP ⟨#[50, 58, 45, 53, 35, 50, 58, 97, 98, 44]⟩ = (⟨#[45, 53]⟩, 5, 0) := by rfl
 unfold getP
 rw [hc]
 simp only [if_neg hm]
 rw [if_pos trivial, if_pos (by rfl), num_m5]
theorem get_b (m : Int) (hm : ¬ m = 0) (d : Nat) : getP (d + 1) ⟨#[50, 58, 97, 98, 44]⟩ m = .ok ⟨2, 0, ⟨#[97, 98]⟩, .nil, 5, 1⟩ := by
 have hc : cutP ⟨#[50, 58, 97, 98, 44]⟩ = (⟨#[97, 98]⟩, 5, 0) := by rfl
 unfold getP
 rw [hc]
 simp only [if_neg hm]
 rw [if_pos trivial, if_neg (by decide), if_pos (by rfl)]
theorem get_t : getR (BT ++ ⟨#[122]⟩) = .ok ⟨3, 0, ⟨#[]⟩, BL, 14, 3⟩ := by
 have hc : cutP (BT ++ ⟨#[122]⟩) = (⟨#[50, 58, 45, 53, 35, 50, 58, 97, 98, 44]⟩, 14, 0) := by rfl
 unfold getR getP
 rw [hc]
 simp only [if_neg (show ¬ (6000 : Int) = 0 by decide)]
 rw [if_pos trivial, if_neg (by decide), if_neg (by decide), if_pos (by rfl)]
 have h : itemsP (getP 5) (6000 - 1) ((⟨#[50, 58, 45, 53, 35, 50, 58, 97, 98, 44]⟩ : ByteArray).size + 1) ⟨#[50, 58, 45, 53, 35, 50, 58, 97, 98, 44]⟩ 0 = some (BL, 2) := by
  rw [show (⟨#[50, 58, 45, 53, 35, 50, 58, 97, 98, 44]⟩ : ByteArray).size + 1 = 10 + 1 from rfl]
  rw [step_arm (by decide), get_a _ (by decide)]
  simp only
  rw [show (⟨#[50, 58, 45, 53, 35, 50, 58, 97, 98, 44]⟩ : ByteArray).extract 5 (⟨#[50, 58, 45, 53, 35, 50, 58, 97, 98, 44]⟩ : ByteArray).size = ⟨#[50, 58, 97, 98, 44]⟩ from rfl]
  rw [show (10 : Nat) = 9 + 1 from rfl, step_arm (by decide), get_b _ (by decide)]
  simp only
  rw [show (⟨#[50, 58, 97, 98, 44]⟩ : ByteArray).extract 5 (⟨#[50, 58, 97, 98, 44]⟩ : ByteArray).size = ⟨#[]⟩ from rfl]
  rfl
 rw [h]
theorem get_m : getR (BT.extract 0 4) = .error 2 := by
 have hc : cutP (BT.extract 0 4) = (⟨#[]⟩, 0, 2) := by rfl
 unfold getR getP
 rw [hc]
 rfl
theorem get_x : getR ⟨#[120]⟩ = .error 1 := by
 have hc : cutP ⟨#[120]⟩ = (⟨#[]⟩, 0, 1) := by rfl
 unfold getR getP
 rw [hc]
 rfl
def bd0 : De := ⟨1, ⟨#[107]⟩, ⟨#[118]⟩, 0, 0, ⟨#[]⟩, 4294967297, 0⟩
def bd1 : De := ⟨2, ⟨#[107]⟩, ⟨#[]⟩, 0, 0, ⟨#[]⟩, 4294967298, 0⟩
def bg1 : Bk := ⟨1, [⟨⟨#[107]⟩, [⟨1, false, ⟨#[118]⟩⟩]⟩], [⟨4294967297, ⟨0, 1⟩⟩], 0, 0, 0, 0, 0⟩
def bg2 : Bk := ⟨2, [⟨⟨#[107]⟩, [⟨1, false, ⟨#[118]⟩⟩, ⟨2, true, ⟨#[]⟩⟩]⟩], [⟨4294967297, ⟨0, 1⟩⟩, ⟨4294967298, ⟨0, 2⟩⟩], 0, 0, 0, 0, 0⟩
def bg3 : Bk := { bg2 with seq := 3 }
theorem bd0_may : mayD bd0 := ⟨by decide +kernel, by decide +kernel, by decide, by decide, .inl ⟨rfl, by decide, rfl, .inl ⟨.inl rfl, rfl⟩⟩⟩
theorem bd1_may : mayD bd1 := ⟨by decide +kernel, by decide +kernel, by decide, by decide, .inr (.inl ⟨rfl, rfl, rfl, rfl, rfl⟩)⟩
theorem bdz_may : ¬ mayD De.zero := fun h => absurd h.1 (by decide +kernel)
theorem bd0_wf : bd0.wf := by unfold De.wf bd0; decide
theorem bd1_wf : bd1.wf := by unfold De.wf bd1; decide
theorem bdz_wf : De.zero.wf := by unfold De.wf De.zero; decide
theorem bg_do1 : doB Bk.zero bd0 true = (bg1, ⟨0, 1⟩) := by kernel_rfl
theorem bg_do2 : doB bg1 bd1 true = (bg2, ⟨0, 2⟩) := by kernel_rfl
theorem bg_do3 : doB bg2 bd0 true = (bg3, ⟨0, 1⟩) := by kernel_rfl
theorem bg_get1 : getB bg1.l ⟨#[107]⟩ 0 = (⟨1, false, ⟨#[118]⟩⟩, 0) := by kernel_rfl
theorem bg_get2 : getB bg2.l ⟨#[107]⟩ 0 = (Ve.zero, 10) := by kernel_rfl
theorem bg2_may : bmay bg2 = true := by decide +kernel
theorem bg2_ent : mayE ⟨#[107]⟩ [⟨1, false, ⟨#[118]⟩⟩, ⟨2, true, ⟨#[]⟩⟩] = true := by decide +kernel
theorem bg_now : (nowE [(⟨1, false, ⟨#[118]⟩⟩ : Ve)]).2 = true := by decide +kernel
theorem bg2_vmay : vmay 3 0 ⟨#[]⟩ (b4book bg2).l = true := by decide +kernel
theorem bk_wf4 (s : Bk) (h : isI s.seq ∧ (∀ e ∈ s.l, ∀ v ∈ e.vs, isI v.ver) ∧ (∀ m ∈ s.ms, isI m.req ∧ isI m.res.err ∧ isI m.res.ver) ∧ ∀ n ∈ lowL s, isI n) : s.wf4 := ⟨h.1, h.2.1, h.2.2.1, h.2.2.2⟩
theorem bgz_wf : Bk.zero.wf4 := bk_wf4 _ (by unfold Bk.zero isI lowL; simp)
theorem bg1_wf : bg1.wf4 := bk_wf4 _ (by unfold bg1 isI lowL; simp)
theorem bg2_wf : bg2.wf4 := bk_wf4 _ (by unfold bg2 isI lowL; simp)
theorem bg2_pos : ¬ (putV 3 0 ⟨#[]⟩ (b4book bg2).l).size = 0 := by decide +kernel
theorem bg2_read : readB (b4put bg2) = some bg2 := by
 have ht := trip_p 3 0 ⟨#[]⟩ (b4book bg2).l bg2_vmay ⟨by decide, by decide⟩ bg2_wf.tree bg2_pos ⟨#[]⟩
 rw [append_none] at ht
 have hp : b4put bg2 = putV 3 0 ⟨#[]⟩ (b4book bg2).l := by
  unfold b4put putS
  rw [if_pos bg2_may, if_pos bg2_vmay]
 have ha : allR (putV 3 0 ⟨#[]⟩ (b4book bg2).l) = .ok ⟨3, 0, ⟨#[]⟩, (b4book bg2).l, (putV 3 0 ⟨#[]⟩ (b4book bg2).l).size, 1 + (b4book bg2).l.cnt⟩ := by
  unfold allR
  rw [ht]
  simp
 have hb : bookOf4 ⟨3, 0, ⟨#[]⟩, (b4book bg2).l⟩ = bg2 := bookOf_book bg2
 unfold readB
 rw [hp, ha]
 dsimp only
 rw [hb, hp, if_pos rfl]
end Go.Proofs.YtlpgphiccjkenaaGreatDoor
namespace Go.Proofs.YtlpgphiccjkenaaGreatDoor
open Go.RowKit Go.Proofs.Flo Go.Proofs.Cpl
theorem fk_n2 : fk 0 2 = 4611686018427387904 := by decide
theorem fk_n4 : fk 0 4 = 4616189618054758400 := by decide
theorem fk_n7 : fk 0 7 = 4619567317775286272 := by decide
theorem fk_n22 : fk 0 22 = 4626885667169763328 := by decide
theorem fk_n255 : fk 0 255 = 4643176031446892544 := by decide
theorem fk_n65514 : fk 0 65514 = 4679236989180968960 := by decide
theorem fk_n65517 : fk 0 65517 = 4679237401497829376 := by decide
theorem mul_b (w : World) : Calls Tryz.prog 110 #[.complex .f64 4611686018427387904 4613937818241073152, .complex .f64 4616189618054758400 4617315517961601024] w fun e w' => e = .returned (.complex .f64 4679236989180968960 4626885667169763328) ∧ w = w' := by
 have h := mul_gc (2, 3) (4, 5) (by unfold Ok; decide) (by unfold Ok; decide) w
 rw [show gmul (2, 3) (4, 5) = (65514, 22) from by decide] at h
 simp only [fk_n2, fk_three, fk_n4, fk_five, fk_n65514, fk_n22] at h
 exact h
def TX : ByteArray := ⟨#[48, 48, 48, 55, 48, 48, 102, 102]⟩
theorem text_b (w : World) (h : LibAt w) : Calls Tryz.prog 112 #[.complex .f64 4619567317775286272 4643176031446892544] w fun e w' => e = .returned (.string TX) ∧ Below w.heap.size w w' := by
 have h := gtext (7, 255) (by unfold Ok; decide) w h.1
 simp only [fk_n7, fk_n255] at h
 exact h
theorem read_b (w : World) (h : LibAt w) : Calls Tryz.prog 111 #[.string TX] w fun e w' => e = .returned (.tuple #[.complex .f64 4619567317775286272 4643176031446892544, .bool true]) ∧ Below w.heap.size w w' := by
 have h := gread_yes TX (7, 255) ⟨by unfold Ok; decide, rfl⟩ w h.1 h.2.1
 simp only [fk_n7, fk_n255] at h
 exact h
theorem mark_a (w : World) : Calls Tryz.prog 113 #[.slice none 0 0] w fun e w' => e = .returned (.complex .f64 0 4607182418800017408) ∧ w = w' := by
 have h := mark_nil w
 unfold gc at h
 simp only [fk_zero, fk_one] at h
 exact h
theorem mark_b (b cap : Nat) (w : World) (hc : w.cell? ⟨b, 0, none⟩ = some (.int .u8 0)) : Calls Tryz.prog 113 #[.slice (some ⟨b, 0, none⟩) 1 cap] w fun e w' => e = .returned (.complex .f64 4679237401497829376 4613937818241073152) ∧ w = w' := by
 have h := mark_gc b 0 cap [0] (by unfold maxLen; decide) w (fun i hi => by
  have : i = 0 := by simp at hi; exact hi
  subst this
  exact hc)
 rw [show gon (0, 1) [0] = (65517, 3) from by decide] at h
 unfold gc at h
 simp only [fk_n65517, fk_three] at h
 exact h
theorem bl_wf : BL.wf := by unfold BL F.wf; simp [F.wf]
theorem put_b (b cap : Nat) (w : World) (h : LibAt w) (hr : RepF w b 0 BL) : Calls Tryz.prog 45 #[.agg #[.int .i64 3, .int .i64 0, .string ⟨#[]⟩, .slice (some ⟨b, 0, none⟩) 2 cap]] w fun e w' => e = .returned (.string BT) ∧ Below w.heap.size w w' := by
 have h := Put_p 3 0 ⟨#[]⟩ BL (some ⟨b, 0, none⟩) cap w h.2.2.2 (by decide) bl_wf (.inr ⟨b, 0, rfl, hr⟩)
 rw [bl_put] at h
 exact h
theorem get_b1 (w : World) (h : LibAt w) : Calls Tryz.prog 86 #[.string (BT ++ ⟨#[122]⟩)] w fun e w' => Below w.heap.size w w' ∧ ∃ x o cap, e = .returned (.tuple #[.agg #[.int .i64 3, .int .i64 0, .string ⟨#[]⟩, .slice (some ⟨x, o, none⟩) 2 cap], .int .i64 14, .int .i64 0]) ∧ RepA w' (fun b => w.heap.size ≤ b) x o BL := by
 have h := Get_p (BT ++ ⟨#[122]⟩) w (by decide) h
 rw [get_t] at h
 refine h.mono ?_
 rintro e w' ⟨hb, ad, cap, rfl, hg⟩
 rcases hg with h0 | ⟨x, o, he, hg⟩
 ·cases h0
 ·subst he
  exact ⟨hb, x, o, cap, rfl, hg⟩
theorem get_b2 (w : World) (h : LibAt w) : Calls Tryz.prog 86 #[.string (BT.extract 0 4)] w fun e w' => e = .returned (.tuple #[.agg #[.int .i64 0, .int .i64 0, .string ⟨#[]⟩, .slice none 0 0], .int .i64 0, .int .i64 2]) ∧ Below w.heap.size w w' := by
 have h := Get_p (BT.extract 0 4) w (by decide) h
 rw [get_m] at h
 exact h.mono fun _ _ h => ⟨h.2, h.1⟩
theorem get_b3 (w : World) (h : LibAt w) : Calls Tryz.prog 86 #[.string ⟨#[120]⟩] w fun e w' => e = .returned (.tuple #[.agg #[.int .i64 0, .int .i64 0, .string ⟨#[]⟩, .slice none 0 0], .int .i64 0, .int .i64 1]) ∧ Below w.heap.size w w' := by
 have h := Get_p ⟨#[120]⟩ w (by decide) h
 rw [get_x] at h
 exact h.mono fun _ _ h => ⟨h.2, h.1⟩
theorem bt_size : BT.size = 14 := rfl
theorem bt_list : BT.toList = [49, 48, 58, 50, 58, 45, 53, 35, 50, 58, 97, 98, 44, 93] := by rw [ByteArray.toList_eq]; rfl
theorem tx_list : TX.toList = [48, 48, 48, 55, 48, 48, 102, 102] := by rw [ByteArray.toList_eq]; rfl
def VAt (b y oy cy : Nat) (w : World) : Prop :=
 w.cell? ⟨b, 0, none⟩ = some (.int .i64 3) ∧ w.cell? ⟨b, 1, none⟩ = some (.int .i64 0) ∧ w.cell? ⟨b, 2, none⟩ = some (.string ⟨#[]⟩) ∧ w.cell? ⟨b, 3, none⟩ = some (.slice (some ⟨y, oy, none⟩) 2 cy) ∧ RepF w y oy BL ∧ (∃ cur t, w.heap[y]? = some (.cells cur t (0, 0)))
theorem heap_lt {w : World} {b : Nat} {o : Obj} (h : w.heap[b]? = some o) : b < w.heap.size := by
 rcases Nat.lt_or_ge b w.heap.size with h1 | h1
 ·exact h1
 ·rw [Array.getElem?_eq_none h1] at h
  cases h
theorem VAt.below {b y oy cy : Nat} {w w' : World} (h : VAt b y oy cy w) (hb : Below w.heap.size w w') : VAt b y oy cy w' := by
 obtain ⟨h0, h1, h2, h3, h4, cur, t, h5⟩ := h
 exact ⟨cell_kept hb (Nat.le_refl _) h0, cell_kept hb (Nat.le_refl _) h1, cell_kept hb (Nat.le_refl _) h2, cell_kept hb (Nat.le_refl _) h3, RepF.kept hb (Nat.le_refl _) _ _ _ h4, cur, t, by rw [hb.block _ (heap_lt h5)]; exact h5⟩
theorem bl_two {w : World} {b o : Nat} (h : RepF w b o BL) (hc : ∃ cur t, w.heap[b]? = some (.cells cur t (0, 0))) : Two w b o := by
 obtain ⟨h0, h1, h2, ⟨a, c, h3, _⟩, h4, h5, h6, ⟨a', c', h7, _⟩, _⟩ := h
 exact ⟨h0, h1, h2, ⟨a, c, h3⟩, h4, h5, h6, ⟨a', c', h7⟩, hc⟩
theorem v_start (w : World) : VAt (w.heap.size + 1) w.heap.size 0 2 ((w.alloc (.cells #[.int .i64 1, .int .i64 (-5), .string ⟨#[]⟩, .slice none 0 0, .int .i64 2, .int .i64 0, .string ⟨#[97, 98]⟩, .slice none 0 0] 88)).alloc (.cells #[.int .i64 3, .int .i64 0, .string ⟨#[]⟩, .slice (some ⟨w.heap.size, 0, none⟩) 2 2] 88)) := by
 refine ⟨?_, ?_, ?_, ?_, ?_, ?_⟩
 ·go_simp
 ·go_simp
 ·go_simp
 ·go_simp
 ·unfold BL RepF RepF RepF
  refine ⟨?_, ?_, ?_, ⟨none, 0, ?_, .inl rfl⟩, ?_, ?_, ?_, ⟨none, 0, ?_, .inl rfl⟩, trivial⟩ <;> ((try simp only [F.len]); go_simp)
 ·exact ⟨#[.int .i64 1, .int .i64 (-5), .string ⟨#[]⟩, .slice none 0 0, .int .i64 2, .int .i64 0, .string ⟨#[97, 98]⟩, .slice none 0 0], 88, by rw [heap_alloc_old _ _ (by simp)]; exact heap_alloc_new w _⟩
theorem v_made {w : World} {x o cap : Nat} {A : Nat → Prop} (hx : RepA w A x o BL) : VAt w.heap.size x o cap (w.alloc (.cells #[.int .i64 3, .int .i64 0, .string ⟨#[]⟩, .slice (some ⟨x, o, none⟩) 2 cap] 88)) := by
 have hb : Below w.heap.size w (w.alloc (.cells #[.int .i64 3, .int .i64 0, .string ⟨#[]⟩, .slice (some ⟨x, o, none⟩) 2 cap] 88)) := (Below.refl _ _).alloc (Nat.le_refl _) _
 obtain ⟨cur, t, hc⟩ := hx.1.2
 refine ⟨?_, ?_, ?_, ?_, RepF.kept hb (Nat.le_refl _) _ _ _ hx.repF, cur, t, by rw [hb.block _ (heap_lt hc)]; exact hc⟩
 ·go_simp
 ·go_simp
 ·go_simp
 ·go_simp
theorem begun_true : BegunTrue := by
 intro w hL
 have HL := Lib.hid hL
 have q1 := bt_size
 have q2 := bt_list
 have q3 := tx_list
 clear hL
 go_enter Tryz.func56, Tryz.ntmps56
 go_wp2_with fail
 refine (mul_b _).mono ?_
 rintro _ w' ⟨rfl, rfl⟩
 go_wp2_with fail
 have hb1 : Below w.heap.size w ((w.alloc (.cells #[.int .i64 1, .int .i64 (-5), .string ⟨#[]⟩, .slice none 0 0, .int .i64 2, .int .i64 0, .string ⟨#[97, 98]⟩, .slice none 0 0] 88)).alloc (.cells #[.int .i64 3, .int .i64 0, .string ⟨#[]⟩, .slice (some ⟨w.heap.size, 0, none⟩) 2 2] 88)) := ((Below.refl _ _).alloc (Nat.le_refl _) _).alloc (by simp) _
 have hv1 := v_start w
 refine (put_b w.heap.size 2 _ (HL.out.below hb1) hv1.2.2.2.2.1).mono ?_
 rintro _ w1 ⟨rfl, hc⟩
 have HV1 := Lib.hid (hv1.below hc)
 have HB1 := Lib.hid (hb1.trans (hc.mono hb1.size))
 clear hb1 hv1 hc
 go_wp2_with fail
 refine (get_b1 _ (HL.out.below HB1.out)).mono ?_
 rintro _ w2 ⟨hc, x, o, cap, rfl, hx⟩
 have hxge : w1.heap.size ≤ x := hx.1.1
 have hb2 : Below w.heap.size w (w2.alloc (.cells #[.int .i64 3, .int .i64 0, .string ⟨#[]⟩, .slice (some ⟨x, o, none⟩) 2 cap] 88)) := (HB1.out.trans (hc.mono HB1.out.size)).alloc (Nat.le_trans HB1.out.size hc.size) _
 have HX2 := Lib.hid (v_made (cap := cap) hx)
 have HV2 : Hid (VAt (w.heap.size + 1) w.heap.size 0 2 (w2.alloc (.cells #[.int .i64 3, .int .i64 0, .string ⟨#[]⟩, .slice (some ⟨x, o, none⟩) 2 cap] 88))) := Lib.hid (HV1.out.below (hc.alloc hc.size _))
 have HB2 := Lib.hid hb2
 have HW1 : Hid (w.heap.size < w1.heap.size) := Lib.hid (by have := heap_lt HV1.out.2.2.2.2.2.choose_spec.choose_spec; exact this)
 clear hc hx hb2
 go_wp2_with fail
 refine (get_b2 _ (HL.out.below HB2.out)).mono ?_
 rintro _ w3 ⟨rfl, hc⟩
 have hc3 := hc.alloc hc.size (.cells #[.int .i64 0, .int .i64 0, .string ⟨#[]⟩, .slice none 0 0] 88)
 have HX3 := Lib.hid (HX2.out.below hc3)
 have HV3 := Lib.hid (HV2.out.below hc3)
 have HB3 := Lib.hid (HB2.out.trans (hc3.mono HB2.out.size))
 clear hc hc3
 go_wp2_with fail
 refine (get_b3 _ (HL.out.below HB3.out)).mono ?_
 rintro _ w4 ⟨rfl, hc⟩
 have hc4 := hc.alloc hc.size (.cells #[.int .i64 0, .int .i64 0, .string ⟨#[]⟩, .slice none 0 0] 88)
 have HX4 := Lib.hid (HX3.out.below hc4)
 have HV4 := Lib.hid (HV3.out.below hc4)
 have HB4 := Lib.hid (HB3.out.trans (hc4.mono HB3.out.size))
 clear hc hc4
 go_wp2_with fail
 refine (text_b _ (HL.out.below HB4.out)).mono ?_
 rintro _ w5 ⟨rfl, hc⟩
 have HX5 := Lib.hid (HX4.out.below hc)
 have HV5 := Lib.hid (HV4.out.below hc)
 have HB5 := Lib.hid (HB4.out.trans (hc.mono HB4.out.size))
 clear hc
 go_wp2_with fail
 refine (read_b _ (HL.out.below HB5.out)).mono ?_
 rintro _ w6 ⟨rfl, hc⟩
 have HX6 := Lib.hid (HX5.out.below hc)
 have HV6 := Lib.hid (HV5.out.below hc)
 have HB6 := Lib.hid (HB5.out.trans (hc.mono HB5.out.size))
 clear hc
 have s1 : (FloatKind.f64.format.order 4679236989180968960 4679236989180968960 == some .eq) = true := by decide
 have s2 : (FloatKind.f64.format.order 4626885667169763328 4626885667169763328 == some .eq) = true := by decide
 have s3 : (FloatKind.f64.format.order 0 0 == some .eq) = true := by decide
 have s4 : (FloatKind.f64.format.order 4607182418800017408 4607182418800017408 == some .eq) = true := by decide
 have s5 : (FloatKind.f64.format.order 4679237401497829376 4679237401497829376 == some .eq) = true := by decide
 have s6 : (FloatKind.f64.format.order 4613937818241073152 4613937818241073152 == some .eq) = true := by decide
 have s7 : (FloatKind.f64.format.order 4619567317775286272 4619567317775286272 == some .eq) = true := by decide
 have s8 : (FloatKind.f64.format.order 4643176031446892544 4643176031446892544 == some .eq) = true := by decide
 go_wp2_with fail
 refine (mark_a _).mono ?_
 rintro _ w' ⟨rfl, rfl⟩
 go_wp2_with fail
 refine (mark_b _ _ _ (by go_simp)).mono ?_
 rintro _ w' ⟨rfl, rfl⟩
 have hc7 : Below w6.heap.size w6 (w6.alloc (.cells #[.int .u8 0] 5)) := (Below.refl _ _).alloc (Nat.le_refl _) _
 have HX7 := Lib.hid (HX6.out.below hc7)
 have HV7 := Lib.hid (HV6.out.below hc7)
 have HB7 := Lib.hid (HB6.out.trans (hc7.mono HB6.out.size))
 clear hc7
 go_wp2_with fail
 refine (text_b _ (HL.out.below HB7.out)).mono ?_
 rintro _ w8 ⟨rfl, hc⟩
 have HX8 := Lib.hid (HX7.out.below hc)
 have HV8 := Lib.hid (HV7.out.below hc)
 have HB8 := Lib.hid (HB7.out.trans (hc.mono HB7.out.size))
 clear hc
 obtain ⟨x0, x1, x2, x3, _, _⟩ := HX8.out
 obtain ⟨v0, v1, v2, v3, _, _⟩ := HV8.out
 go_wp2_with fail
 refine (eq_two x w.heap.size o 0 cap 2 (by have := HW1.out; omega) _ (bl_two HX8.out.2.2.2.2.1 HX8.out.2.2.2.2.2) (bl_two HV8.out.2.2.2.2.1 HV8.out.2.2.2.2.2)).mono ?_
 rintro _ w9 ⟨rfl, hc⟩
 have HB9 := Lib.hid (HB8.out.trans (hc.mono HB8.out.size))
 clear hc x0 x1 x2 x3 v0 v1 v2 v3
 go_wp2_with fail
 go_ret
 exact ⟨rfl, HB9.out⟩
end Go.Proofs.YtlpgphiccjkenaaGreatDoor
