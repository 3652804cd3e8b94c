/-
 Contracts of the program, and what they rest on.
-/
import Derived.Test.YtlajbminbdhpaaaGreatDoorTk
import Derived.Test.YtlajbminbdhpaaaGreatDoorM11
import Derived.Test.YtlajbminbdhpaaaGreatDoorRTomE
import Derived.Test.YtlajbminbdhpaaaGreatDoorRefTa
import Derived.Test.YtlajbminbdhpaaaGreatDoorRefTc
import Derived.Test.YtlajbminbdhpaaaGreatDoorRefTd
set_option maxRecDepth 100000
set_option maxHeartbeats 16000000
namespace Go.Proofs.YtlajbminbdhpaaaGreatDoor
open Go.RowKit Go.Maps
def RPur (w V : World) (key : ByteArray) (v : Value) (l : List Ve) : Prop := EC V w.heap.size key v ∧ EC V (w.heap.size + 1) ⟨#[]⟩ (.slice none 0 0) ∧ VsAt V v l ∧ Below w.heap.size w V
theorem RPur.below {w V V' : World} {key : ByteArray} {v : Value} {l : List Ve} (h : RPur w V key v l) (hb : Below V.heap.size V V') : RPur w V' key v l := ⟨h.1.below hb, h.2.1.below hb, h.2.2.1.below hb, h.2.2.2.trans (hb.mono h.2.2.2.size)⟩
theorem RPur.new (w : World) (key : ByteArray) (ad : Option Addr) (n c : Nat) (l : List Ve) (t : TypeId) (h : VsAt w (.slice ad n c) l) : RPur w ((w.alloc (.cells #[.string key, .slice ad n c] t)).alloc (.cells #[.string ⟨#[]⟩, .slice none 0 0] t)) key (.slice ad n c) l := by
 have hb : Below w.heap.size w ((w.alloc (.cells #[.string key, .slice ad n c] t)).alloc (.cells #[.string ⟨#[]⟩, .slice none 0 0] t)) := ((Below.refl _ w).alloc (Nat.le_refl _) _).alloc (by simp) _
 refine ⟨(EC.new w key ad n c t).alloc _, ?_, h.below hb, hb⟩
 have := EC.new (w.alloc (.cells #[.string key, .slice ad n c] t)) ⟨#[]⟩ none 0 0 t
 rw [show (w.alloc (.cells #[.string key, .slice ad n c] t)).heap.size = w.heap.size + 1 by simp] at this
 exact this
theorem rpurge_no (key : ByteArray) (v : Value) (l : List Ve) (n : Int) (w : World) (h : VsAt w v l) (hn : l.length ≤ 1000000) (hp : placeE l n = none) :
  Calls Tryz.prog 14 #[.agg #[.string key, v], .int .i64 n] w (REnt key (l, false) w) := by
 obtain ⟨ad, cap, rfl, _⟩ := h.shape
 have HGW : Hid (∀ j, (Value.slice ad l.length cap).ownBlock = some j → j < w.heap.size) := Lib.hid (fun j hj => by
  rcases h with ⟨e, _⟩ | ⟨g', o', cap', e, _, _, hlt, _⟩
  ·rw [e] at hj; cases hj
  ·rw [e] at hj; cases hj; exact hlt)
 have HR := Lib.hid (RPur.new w key ad l.length cap l 24 h)
 have HAT := Lib.hid (fun W (hW : VsAt W (.slice ad l.length cap) l) => rat_p key _ l n W hW hn)
 have e1 : ratE l n = (0, false) := by unfold ratE; rw [hp]
 rw [e1] at HAT
 dsimp only at HAT
 clear h e1
 go_enter Tryz.func14, Tryz.ntmps14
 go_wp2_with fail
 generalize (w.alloc (.cells #[.string key, .slice ad l.length cap] 24)).alloc (.cells #[.string ⟨#[]⟩, .slice none 0 0] 24) = W at *
 refine (HAT.out _ HR.out.2.2.1).mono ?_
 rintro _ w1 ⟨rfl, hb1⟩
 have HR1 := Lib.hid (HR.out.below hb1)
 clear hb1 HR HAT
 obtain ⟨⟨c0, c1⟩, f0, f1⟩ := HR1.out.1
 obtain ⟨⟨d0, d1⟩, e0, e1⟩ := HR1.out.2.1
 go_wp2_with fail
 have t0 : ((w1.setCell ⟨w.heap.size + 1, 0, none⟩ (.string key)).setCell ⟨w.heap.size + 1, 1, none⟩ (.slice ad l.length cap)).cell? ⟨w.heap.size + 1, 0, none⟩ = some (.string key) := by go_simp
 have t1 : ((w1.setCell ⟨w.heap.size + 1, 0, none⟩ (.string key)).setCell ⟨w.heap.size + 1, 1, none⟩ (.slice ad l.length cap)).cell? ⟨w.heap.size + 1, 1, none⟩ = some (.slice ad l.length cap) := by go_simp
 have hV := HR1.out.2.2.1.kept (w' := (w1.setCell ⟨w.heap.size + 1, 0, none⟩ (.string key)).setCell ⟨w.heap.size + 1, 1, none⟩ (.slice ad l.length cap)) (by simp) (fun j hj => by
  have := HGW.out j hj
  rw [Below.heap_setCell _ _ _ _ (by simp; omega), Below.heap_setCell _ _ _ _ (by simp; omega)])
 have hB := (HR1.out.2.2.2.setCell (p := ⟨w.heap.size + 1, 0, none⟩) (by simp) (.string key)).setCell (p := ⟨w.heap.size + 1, 1, none⟩) (by simp) (.slice ad l.length cap)
 exact bodyPost_ret (v := .tuple #[.agg #[.string key, .slice ad l.length cap], .bool false]) (by simp [results, Tryz.results14, go_sem, t0, t1]) rfl ⟨ad, cap, rfl, hV, hB⟩
theorem rpurge_yes (key : ByteArray) (l : List Ve) (g o cap : Nat) (n : Int) (w : World) (h : VsAt w (.slice (some ⟨g, o, none⟩) l.length cap) l) (hn : l.length ≤ 1000000) (k : Nat) (hp : placeE l n = some k) :
  Calls Tryz.prog 14 #[.agg #[.string key, .slice (some ⟨g, o, none⟩) l.length cap], .int .i64 n] w (REnt key (l.take k ++ l.drop (k + 1), true) w) := by
 obtain ⟨i0, hi, hz0, hz1, hz2⟩ := info_v
 have hkl := placeE_lt hp
 obtain ⟨hcap, hcmax⟩ : l.length ≤ cap ∧ cap ≤ maxLen := by
  rcases h with ⟨e, _⟩ | ⟨g', o', cap', e, q1, q2, _, _⟩
  ·cases e
  ·cases e; exact ⟨q1, q2⟩
 have HR := Lib.hid (RPur.new w key (some ⟨g, o, none⟩) l.length cap l 24 h)
 have HAT := Lib.hid (fun W (hW : VsAt W (.slice (some ⟨g, o, none⟩) l.length cap) l) => rat_p key _ l n W hW hn)
 have e1 : ratE l n = ((k : Int), true) := by unfold ratE; rw [hp]
 rw [e1] at HAT
 dsimp only at HAT
 have hlen1 : (vcells (l.take k)).length = k * 3 := by rw [vcells_length, List.length_take, Nat.min_eq_left (by omega)]
 have hlen2 : (vcells (l.drop (k + 1))).length = (l.length - (k + 1)) * 3 := by rw [vcells_length, List.length_drop]
 have hone1 := vcells_one (l.take k)
 have hone2 := vcells_one (l.drop (k + 1))
 obtain ⟨A2, hA2⟩ : ∃ A2 : Addr, (if cap = k + 1 then some (⟨g, o, none⟩ : Addr) else some ⟨g, o + (k + 1) * 3, none⟩) = some A2 := by split <;> exact ⟨_, rfl⟩
 have HC1 : Hid (∀ Y, VsAt Y (.slice (some ⟨g, o, none⟩) l.length cap) l → ∀ j u, (vcells (l.take k))[j]? = some u → Y.cell? ((⟨g, o, none⟩ : Addr).add j) = some u) := Lib.hid (fun Y hY j u hj => hY.cells j u (by
  rw [← vcells_take] at hj
  rw [List.getElem?_take] at hj
  split at hj
  ·exact hj
  ·cases hj))
 have HC2 : Hid (∀ Y, VsAt Y (.slice (some ⟨g, o, none⟩) l.length cap) l → ∀ j u, (vcells (l.drop (k + 1)))[j]? = some u → Y.cell? (A2.add j) = some u) := Lib.hid (fun Y hY j u hj => by
  by_cases hck : cap = k + 1
  ·have : l.drop (k + 1) = [] := List.drop_eq_nil_of_le (by omega)
   rw [this] at hj
   simp [vcells] at hj
  ·rw [if_neg hck] at hA2
   obtain rfl := Option.some.inj hA2
   rw [← vcells_drop, List.getElem?_drop] at hj
   have := hY.cells _ u hj
   rw [add_flat5] at this ⊢
   rw [show o + (k + 1) * 3 + j = o + ((k + 1) * 3 + j) by omega]
   exact this)
 have hln : (l.take k ++ l.drop (k + 1)).length = k + (l.length - (k + 1)) := by rw [List.length_append, List.length_take, List.length_drop, Nat.min_eq_left (by omega)]
 have HVC : Hid (vcells (l.take k ++ l.drop (k + 1)) = vcells (l.take k) ++ vcells (l.drop (k + 1)) ∧ (l.take k ++ l.drop (k + 1)).length = k + (l.length - (k + 1))) := Lib.hid ⟨vcells_append _ _, hln⟩
 unfold REnt
 dsimp only
 rw [hln]
 generalize hX1 : vcells (l.take k) = X1 at *
 generalize hX2 : vcells (l.drop (k + 1)) = X2 at *
 generalize l.take k ++ l.drop (k + 1) = L2 at *
 obtain ⟨N, hN⟩ : ∃ N, k + (l.length - (k + 1)) = N := ⟨_, rfl⟩
 rw [hN] at HVC ⊢
 have HNN := Lib.hid hN
 have HA2 := Lib.hid hA2
 clear h e1 hX1 hX2 hln hp hN
 have hkc : k ≤ cap := by omega
 have hk0 : (0 : Int) ≤ (k : Int) := by omega
 have hkcz : (k : Int) ≤ (cap : Int) := by omega
 have hw1 : IntKind.i64.wrap ((k : Int) + 1) = (k : Int) + 1 := IntWalk.i64_in _ (by omega)
 have hw2 : ((k : Int) + 1).toNat = k + 1 := by omega
 have hw0 : (0 : Int) ≤ (k : Int) + 1 := by omega
 have hw3 : (k : Int) + 1 ≤ (l.length : Int) := by omega
 have hw4 : k + 1 ≤ l.length := by omega
 have hlc : (l.length : Int) ≤ (cap : Int) := by omega
 go_enter Tryz.func14, Tryz.ntmps14
 go_wp2_with fail
 generalize (w.alloc (.cells #[.string key, .slice (some ⟨g, o, none⟩) l.length cap] 24)).alloc (.cells #[.string ⟨#[]⟩, .slice none 0 0] 24) = W at *
 refine (HAT.out _ HR.out.2.2.1).mono ?_
 rintro _ V ⟨rfl, hb1⟩
 have HRV := Lib.hid (HR.out.below hb1)
 clear hb1 HR HAT
 have HSS : Hid (∀ Y, Below V.heap.size V Y → Y.cell? ⟨w.heap.size, 1, none⟩ = some (.slice (some ⟨g, o, none⟩) l.length cap)) := Lib.hid (fun Y hY => ((HRV.out.below hY).1).1.2)
 have HCL : Hid (∀ Y, Below V.heap.size V Y → VsAt Y (.slice (some ⟨g, o, none⟩) l.length cap) l) := Lib.hid (fun Y hY => HRV.out.2.2.1.below hY)
 have hdr : Below V.heap.size V V.drew := (Below.refl V.heap.size V).drew
 have HDR := Lib.hid hdr
 have hS0 := HSS.out _ hdr
 clear hdr
 go_wp2_with fail
 refine wp_region_last (S := fun Y => Y.cell? ⟨w.heap.size, 1, none⟩ = some (.slice (some ⟨g, o, none⟩) l.length cap)) (by kernel_rfl) (ops := List.toArray [_, _, _, _, _, _, _, _, _, _, _, _]) (o := _) rfl (by kernel_rfl) ?_
 refine tk 0 (.pointer (some ⟨w.heap.size, 1, none⟩)) rfl ?_ hS0 ?_
 ·intro w' hSw; go_simp
 refine tk 1 (.slice (some ⟨g, o, none⟩) l.length cap) rfl ?_ hS0 ?_
 ·intro w' hSw; go_simp
 refine tk 2 (.int .i64 k) rfl ?_ hS0 ?_
 ·intro w' hSw; go_simp
 refine tk 3 (.slice (some ⟨g, o, none⟩) k cap) rfl ?_ hS0 ?_
 ·intro w' hSw; go_simp
 refine tk 5 (.pointer (some ⟨w.heap.size, 1, none⟩)) rfl ?_ hS0 ?_
 ·intro w' hSw; go_simp
 refine tk 6 (.slice (some ⟨g, o, none⟩) l.length cap) rfl ?_ hS0 ?_
 ·intro w' hSw; go_simp
 refine tk 7 (.int .i64 k) rfl ?_ hS0 ?_
 ·intro w' hSw; go_simp
 refine tk 8 (.int .i64 ((k : Int) + 1)) rfl ?_ hS0 ?_
 ·intro w' hSw; go_simp
 refine tk 9 (.slice (some A2) (l.length - (k + 1)) (cap - (k + 1))) rfl ?_ hS0 ?_
 ·intro w' hSw; go_simp
 simp only [List.getElem_toArray, List.getElem_cons_succ, List.getElem_cons_zero, Act.put, List.setIfInBounds_toArray, List.set_cons_zero, List.set_cons_succ]
 refine wpAnyH_ready (rs := [4]) (by kernel_rfl) (by simp) ?_
 refine AllReadyH.cons rfl (fun K hK => ?_) AllReadyH.nil
 simp only [List.getElem_toArray, List.getElem_cons_succ, List.getElem_cons_zero]
 rw [if_pos (by rfl)]
 refine op_append_at (.const (.slice none 0 0)) (.tmp 18) _ rfl V.heap.size 26 i0 _ 3 32 Tryz.underlying22 hi hz0 hz1 hz2 rfl (by decide) (.slice none 0 0) 0 [] (by rfl) (World.ownsRow_nil _ _ _ _) ⟨g, o, none⟩ k cap X1 (by rfl) hlen1 (HC1.out _ (HCL.out _ HDR.out)) hone1 (by unfold maxLen; omega) (by omega) (Nat.le_refl _) ?_
 intro v1 w1 hown1 hgrow1 hloc1
 rw [Nat.zero_add, List.nil_append] at hown1
 have hb1 : Below V.heap.size V w1 := HDR.out.grown hgrow1 (Nat.le_refl _) (by intro j hj; simp [Value.ownBlock] at hj)
 have hsz1 : V.heap.size ≤ w1.heap.size := hb1.size
 obtain ⟨va, vc, rfl⟩ := owns_slice5 hown1
 refine hK.out _ _ (HSS.out _ hb1) (fun _ => ?_)
 clear hK
 simp only [Act.put, List.setIfInBounds_toArray, List.set_cons_zero, List.set_cons_succ]
 refine wpAnyH_ready (rs := [10]) (by kernel_rfl) (by simp) ?_
 refine AllReadyH.cons rfl (fun K hK => ?_) AllReadyH.nil
 simp only [List.getElem_toArray, List.getElem_cons_succ, List.getElem_cons_zero]
 rw [if_pos (by rfl)]
 refine op_append_at (.tmp 19) (.tmp 24) _ rfl V.heap.size 26 i0 _ 3 32 Tryz.underlying22 hi hz0 hz1 hz2 rfl (by decide) (.slice va k vc) k X1 (by rfl) hown1 A2 (l.length - (k + 1)) (cap - (k + 1)) X2 (by rfl) hlen2 (HC2.out _ (HCL.out _ hb1)) hone2 (by unfold maxLen; omega) (by omega) hsz1 ?_
 intro v2 w2 hown2 hgrow2 hloc2
 rw [HNN.out] at hown2
 have hb2 : Below V.heap.size V w2 := hb1.grown hgrow2 hsz1 (by intro j hj; rcases hown1.2 with ⟨e, _⟩ | ⟨g', c', cur, e, hg', _⟩ <;> rw [e] at hj <;> cases hj; exact hg')
 obtain ⟨vb, vd, rfl⟩ := owns_slice5 hown2
 refine hK.out _ _ (HSS.out _ hb2) (fun hS0 => ?_)
 clear hK
 simp only [Act.put, List.setIfInBounds_toArray, List.set_cons_zero, List.set_cons_succ]
 have hV2 : VOwn w2 V.heap.size (.slice vb N vd) L2 := by
  unfold VOwn
  rw [HVC.out.1, HVC.out.2]
  exact hown2
 have HF := Lib.hid (And.intro (HRV.out.below hb2) hV2)
 refine tk 11 (.pointer (some ⟨w.heap.size, 1, none⟩)) rfl ?_ hS0 ?_
 ·intro w' hSw; go_simp
 simp only [List.getElem_toArray, List.getElem_cons_succ, List.getElem_cons_zero, Act.put, List.setIfInBounds_toArray, List.set_cons_zero, List.set_cons_succ]
 refine wpAnyH_done (by kernel_rfl) ?_ _
 dsimp only [Exit.then]
 rw [if_pos (by rfl)]
 clear hown1 hgrow1 hloc1 hown2 hgrow2 hloc2 hb1 hb2 hV2 hS0 hsz1
 obtain ⟨⟨c0, c1⟩, f0, f1⟩ := HF.out.1.1
 go_simp
 have hE3 := ec_putr HF.out.1.1 (.slice vb N vd)
 have hlt : w.heap.size + 1 < V.heap.size := HRV.out.2.1.lt
 have hR3 : EC (w2.setCell ⟨w.heap.size, 1, none⟩ (.slice vb N vd)) (w.heap.size + 1) ⟨#[]⟩ (.slice none 0 0) := HF.out.1.2.1.kept (Below.heap_setCell _ _ _ _ (by simp))
 have hV3 : VOwn (w2.setCell ⟨w.heap.size, 1, none⟩ (.slice vb N vd)) V.heap.size (.slice vb N vd) L2 := HF.out.2.kept (fun j hj => Below.heap_setCell _ _ _ _ (by have := (HF.out.2.lt hj).1; simp; omega))
 have HG := Lib.hid (And.intro hV3 (HF.out.1.2.2.2.setCell (p := ⟨w.heap.size, 1, none⟩) (Nat.le_refl _) (.slice vb N vd)))
 clear c0 c1 f0 f1 hV3
 generalize w2.setCell ⟨w.heap.size, 1, none⟩ (.slice vb N vd) = W3 at *
 obtain ⟨⟨c0, c1⟩, f0, f1⟩ := hE3
 obtain ⟨⟨d0, d1⟩, e0, e1⟩ := hR3
 go_wp2_with fail
 have t0 : ((W3.setCell ⟨w.heap.size + 1, 0, none⟩ (.string key)).setCell ⟨w.heap.size + 1, 1, none⟩ (.slice vb N vd)).cell? ⟨w.heap.size + 1, 0, none⟩ = some (.string key) := by go_simp
 have t1 : ((W3.setCell ⟨w.heap.size + 1, 0, none⟩ (.string key)).setCell ⟨w.heap.size + 1, 1, none⟩ (.slice vb N vd)).cell? ⟨w.heap.size + 1, 1, none⟩ = some (.slice vb N vd) := by go_simp
 have hV4 := HG.out.1.kept (w' := (W3.setCell ⟨w.heap.size + 1, 0, none⟩ (.string key)).setCell ⟨w.heap.size + 1, 1, none⟩ (.slice vb N vd)) (fun j hj => by
  have := (HG.out.1.lt hj).1
  rw [Below.heap_setCell _ _ _ _ (by simp; omega), Below.heap_setCell _ _ _ _ (by simp; omega)])
 have hB4 := (HG.out.2.setCell (p := ⟨w.heap.size + 1, 0, none⟩) (by simp) (.string key)).setCell (p := ⟨w.heap.size + 1, 1, none⟩) (by simp) (.slice vb N vd)
 exact bodyPost_ret (v := .tuple #[.agg #[.string key, .slice vb N vd], .bool true]) (by simp [results, Tryz.results14, go_sem, t0, t1]) rfl ⟨vb, vd, rfl, hV4.at, hB4⟩
theorem rpurge_p (key : ByteArray) (v : Value) (l : List Ve) (n : Int) (w : World) (h : VsAt w v l) (hn : l.length ≤ 1000000) :
  Calls Tryz.prog 14 #[.agg #[.string key, v], .int .i64 n] w (REnt key (purgeE l n) w) := by
 unfold purgeE
 cases hp : placeE l n with
 | none => exact rpurge_no key v l n w h hn hp
 | some k =>
  have hk := placeE_lt hp
  have h' := h
  rcases h with ⟨rfl, rfl⟩ | ⟨g, o, cap, rfl, _, _, _, _⟩
  ·simp at hk
  ·exact rpurge_yes key l g o cap n w h' hn k hp
end Go.Proofs.YtlajbminbdhpaaaGreatDoor
