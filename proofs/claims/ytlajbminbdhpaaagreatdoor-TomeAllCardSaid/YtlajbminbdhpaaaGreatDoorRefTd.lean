/-
 Contracts of the program, and what they rest on.
-/
import Derived.Test.YtlajbminbdhpaaaGreatDoorTk
import Derived.Test.YtlajbminbdhpaaaGreatDoorM05
import Derived.Deep.AppendLies
import Derived.Test.YtlajbminbdhpaaaGreatDoorRefTb
import Derived.Test.YtlajbminbdhpaaaGreatDoorRefTc
set_option maxRecDepth 100000
set_option maxHeartbeats 16000000
namespace Go.Proofs.YtlajbminbdhpaaaGreatDoor
open Go.RowKit Go.Maps
theorem add_flat5 (g o j : Nat) : (⟨g, o, none⟩ : Addr).add j = ⟨g, o + j, none⟩ := by unfold Addr.add; split <;> simp_all
theorem VsAt.cells {w : World} {g o n c : Nat} {l : List Ve} (h : VsAt w (.slice (some ⟨g, o, none⟩) n c) l) : ∀ j u, (vcells l)[j]? = some u → w.cell? ((⟨g, o, none⟩ : Addr).add j) = some u := fun j u hj => by
 rcases h with ⟨e, _⟩ | ⟨g', o', c', e, _, _, _, h4⟩
 ·cases e
 ·simp only [Value.slice.injEq, Option.some.injEq, Addr.mk.injEq, and_true] at e
  obtain ⟨⟨rfl, rfl⟩, _, _⟩ := e
  rw [add_flat5]
  exact h4.cells j u hj
theorem run_app_nil {P : Program} {w : World} (t ty e : TypeId) (i : TypeInfo) (ht : P.underlying t = some (.slice e)) (hi : P.info? e = some i) :
  (Builtin.append_ #[t, t] ty #[.slice none 0 0, .slice none 0 0]).run P w = .ok (.slice none 0 0) w := by
 simp [Builtin.append_, run_underlying ht, sizeOf, typeInfo, hi, Builtin.lenOf, run_firstCells_none]
theorem owns_slice5 {w : World} {base : Nat} {e : TypeId} {size n : Nat} {v : Value} {xs : List Value} (h : w.ownsRow base e size v n xs) : ∃ ad cap, v = .slice ad n cap := by
 rcases h.2 with ⟨rfl, rfl⟩ | ⟨g, cap, cur, rfl, _⟩
 ·exact ⟨_, _, rfl⟩
 ·exact ⟨_, _, rfl⟩
theorem ec_putr {w : World} {b : Nat} {key : ByteArray} {v : Value} (h : EC w b key v) (v' : Value) : EC (w.setCell ⟨b, 1, none⟩ v') b key v' := by
 obtain ⟨⟨h0, h1⟩, f0, f1⟩ := h
 refine ⟨⟨?_, ?_⟩, ?_, ?_⟩ <;> go_simp
def RAdd (w V : World) (key : ByteArray) (v : Value) (l : List Ve) (x : Ve) : Prop := EC V w.heap.size key v ∧ VC3 V (w.heap.size + 1) x ∧ EC V (w.heap.size + 1 + 1) ⟨#[]⟩ (.slice none 0 0) ∧ VsAt V v l ∧ Below w.heap.size w V
theorem RAdd.below {w V V' : World} {key : ByteArray} {v : Value} {l : List Ve} {x : Ve} (h : RAdd w V key v l x) (hb : Below V.heap.size V V') : RAdd w V' key v l x := ⟨h.1.below hb, h.2.1.below hb, h.2.2.1.below hb, h.2.2.2.1.below hb, h.2.2.2.2.trans (hb.mono h.2.2.2.2.size)⟩
theorem radd_k (key : ByteArray) (l : List Ve) (g o cap : Nat) (x : Ve) (w : World) (h : VsAt w (.slice (some ⟨g, o, none⟩) l.length cap) l) (hl0 : ¬ l = []) (hm : mayAdd l x.ver = true) :
  Calls Tryz.prog 12 #[.agg #[.string key, (.slice (some ⟨g, o, none⟩) l.length cap)], .agg #[.int .i64 x.ver, .bool x.gone, .string x.body]] w (REnt key (l ++ [x], true) w) := by
 obtain ⟨i0, hi, hz0, hz1, hz2⟩ := info_v
 have HB := Lib.hid (w3_below w key (some ⟨g, o, none⟩) l.length cap x 24 26)
 have h1 := w3_ec w key (some ⟨g, o, none⟩) l.length cap x 24 26
 have h2 := w3_vc w key (some ⟨g, o, none⟩) l.length cap x 24 26
 have h3 := w3_er w key (some ⟨g, o, none⟩) l.length cap x 24 26
 have HV := Lib.hid (h.below HB.out)
 unfold w3 at HB h1 h2 h3 HV
 clear h
 rcases mayAdd_yes hm with hnil | ⟨y, k, hk, hk12, hy, hle⟩
 ·exact absurd hnil hl0
 obtain ⟨_, _, hge, y0, y1, y2, hg⟩ := HV.out.get hy
 obtain ⟨rfl, rfl⟩ : g = _ ∧ o = _ := by simpa using hge
 have hkz : (l.length : Int) = (k : Int) + 1 := by omega
 have hwl : IntKind.i64.wrap ((l.length : Int) - 1) = (k : Int) := by rw [hkz, Int.add_sub_cancel]; exact IntWalk.i64_in _ (by omega)
 have hl0z : (0 : Int) < (l.length : Int) := by omega
 have hl0n : 0 < l.length := by omega
 have hlk2 : k < l.length := by omega
 have h12l : decide ((12 : Int) ≤ (l.length : Int)) = false := decide_eq_false (by omega)
 have hlen12 : l.length < 12 := by omega
 have hle2 : decide (x.ver ≤ y.ver) = false := decide_eq_false (by omega)
 clear hm hy hk hkz hge hle hl0
 go_enter Tryz.func12, Tryz.ntmps12
 go_wp2_with fail
 generalize ((w.alloc (.cells #[.string key, (.slice (some ⟨g, o, none⟩) l.length cap)] 24)).alloc (.cells #[.int .i64 x.ver, .bool x.gone, .string x.body] 26)).alloc (.cells #[.string ⟨#[]⟩, .slice none 0 0] 24) = W at *
 have HR := Lib.hid (show RAdd w W key (.slice (some ⟨g, o, none⟩) l.length cap) l x from ⟨h1, h2, h3, HV.out, HB.out⟩)
 obtain ⟨⟨c0, c1⟩, f0, f1⟩ := h1
 obtain ⟨⟨x0, x1, x2⟩, _⟩ := h2
 clear h3 HV HB
 go_quiet (fail)
 have HRV := Lib.hid (HR.out.below (below_drewN (Below.refl W.heap.size W) nq))
 clear c0 c1 f0 f1 x0 x1 x2 HR y0 y1 y2
 generalize W.drewN nq = V at *
 have HSS : Hid (∀ Y, Below V.heap.size V Y → Y.cell? ⟨w.heap.size, 1, none⟩ = some ((.slice (some ⟨g, o, none⟩) l.length cap)) ∧ Y.cell? ⟨w.heap.size + 1, 0, none⟩ = some (.int .i64 x.ver) ∧ Y.cell? ⟨w.heap.size + 1, 1, none⟩ = some (.bool x.gone) ∧ Y.cell? ⟨w.heap.size + 1, 2, none⟩ = some (.string x.body)) := Lib.hid (fun Y hY => ⟨((HRV.out.below hY).1).1.2, ((HRV.out.below hY).2.1).1⟩)
 have HCL : Hid (∀ Y, Below V.heap.size V Y → VsAt Y (.slice (some ⟨g, o, none⟩) l.length cap) l) := Lib.hid (fun Y hY => HRV.out.2.2.2.1.below hY)
 have hone := vcells_one l
 have hlen := vcells_length l
 have hdr : Below V.heap.size V V.drew := (Below.refl V.heap.size V).drew
 have HDR := Lib.hid hdr
 have hS0 := HSS.out _ hdr
 have HONE : Hid (∀ u ∈ ([.int .i64 x.ver, .bool x.gone, .string x.body] : List Value), u.oneCell' = true) := Lib.hid (by intro u hu; simp at hu; rcases hu with rfl | rfl | rfl <;> rfl)
 have HNA : Hid (∀ Y : World, ∀ j u, ([.int .i64 x.ver, .bool x.gone, .string x.body] : List Value)[j]? = some u → (Y.alloc (.cells #[.int .i64 x.ver, .bool x.gone, .string x.body] 26)).cell? ((⟨Y.heap.size, 0, none⟩ : Addr).add j) = some u) := Lib.hid (fun Y => World.news_of_block (cs := #[.int .i64 x.ver, .bool x.gone, .string x.body]) (heap_alloc_new Y _))
 clear hdr
 go_wp2_with fail
 refine wp_region_last (S := fun Y => Y.cell? ⟨w.heap.size, 1, none⟩ = some ((.slice (some ⟨g, o, none⟩) l.length cap)) ∧ Y.cell? ⟨w.heap.size + 1, 0, none⟩ = some (.int .i64 x.ver) ∧ Y.cell? ⟨w.heap.size + 1, 1, none⟩ = some (.bool x.gone) ∧ Y.cell? ⟨w.heap.size + 1, 2, none⟩ = some (.string x.body)) (by kernel_rfl) (ops := List.toArray [_, _, _, _, _, _, _]) (o := _) rfl (by kernel_rfl) ?_
 refine tk 0 (.pointer (some ⟨w.heap.size, 1, none⟩)) rfl ?_ hS0 ?_
 ·intro w' hSw; go_simp
 refine tk 1 ((.slice (some ⟨g, o, none⟩) l.length cap)) rfl ?_ hS0 ?_
 ·intro w' hSw; obtain ⟨s0, _⟩ := hSw; go_simp
 refine tk 3 (.agg #[.int .i64 x.ver, .bool x.gone, .string x.body]) rfl ?_ hS0 ?_
 ·intro w' hSw; obtain ⟨_, s0, s1, s2⟩ := hSw; go_simp
 simp only [List.getElem_toArray, List.getElem_cons_succ, List.getElem_cons_zero, Act.put, List.setIfInBounds_toArray, List.set_cons_zero, List.set_cons_succ]
 refine wpAnyH_ready (rs := [2, 4]) (by kernel_rfl) (by simp) ?_
 refine AllReadyH.cons rfl (fun K hK => ?_) (AllReadyH.cons rfl (fun K hK => ?_) AllReadyH.nil)
 ·--A
  simp only [List.getElem_toArray, List.getElem_cons_succ, List.getElem_cons_zero]
  rw [if_pos (by rfl)]
  refine op_append_at (.const (.slice none 0 0)) (.tmp 30) _ rfl V.heap.size 26 i0 _ 3 32 Tryz.underlying22 hi hz0 hz1 hz2 rfl (by decide) (.slice none 0 0) 0 [] (by rfl) (World.ownsRow_nil _ _ _ _) ⟨g, o, none⟩ l.length cap (vcells l) (by rfl) hlen (HCL.out _ HDR.out).cells hone (by unfold maxLen; omega) (by omega) (Nat.le_refl _) ?_
  intro v1 w1 hown1 hgrow1 hloc1
  rw [Nat.zero_add, List.nil_append] at hown1
  have hb1 : Below V.heap.size V w1 := HDR.out.grown hgrow1 (Nat.le_refl _) (by intro j hj; simp [Value.ownBlock] at hj)
  obtain ⟨va, vc, rfl⟩ := owns_slice5 hown1
  refine hK.out _ _ (HSS.out _ hb1) (fun _ => ?_)
  clear hK
  simp only [Act.put, List.setIfInBounds_toArray, List.set_cons_zero, List.set_cons_succ]
  refine wpAnyH_ready (rs := [4]) (by kernel_rfl) (by simp) ?_
  refine AllReadyH.cons rfl (fun K hK => ?_) AllReadyH.nil
  simp only [List.getElem_toArray, List.getElem_cons_succ, List.getElem_cons_zero]
  go_simp
  have hb1' : Below V.heap.size V (w1.alloc (.cells #[.int .i64 x.ver, .bool x.gone, .string x.body] 26)) := hb1.alloc hb1.size _
  have hsz1 : V.heap.size ≤ (w1.alloc (.cells #[.int .i64 x.ver, .bool x.gone, .string x.body] 26)).heap.size := hb1'.size
  refine hK.out _ _ (HSS.out _ hb1') (fun _ => ?_)
  clear hK
  refine wpAnyH_ready (rs := [5]) (by kernel_rfl) (by simp) ?_
  refine AllReadyH.cons rfl (fun K hK => ?_) AllReadyH.nil
  simp only [List.getElem_toArray, List.getElem_cons_succ, List.getElem_cons_zero]
  rw [if_pos (by rfl)]
  refine op_append_at (.tmp 31) (.tmp 33) _ rfl V.heap.size 26 i0 _ 3 32 Tryz.underlying22 hi hz0 hz1 hz2 rfl (by decide) (.slice va l.length vc) l.length (vcells l) (by rfl) (hown1.alloc _) ⟨w1.heap.size, 0, none⟩ 1 1 [.int .i64 x.ver, .bool x.gone, .string x.body] (by rfl) rfl (HNA.out w1) HONE.out (by unfold maxLen; omega) (by omega) hsz1 ?_
  intro v2 w2 hown2 hgrow2 hloc2
  have hb2 : Below V.heap.size V w2 := hb1'.grown hgrow2 hsz1 (by intro j hj; rcases hown1.2 with ⟨e, _⟩ | ⟨g', c', cur, e, hg', _⟩ <;> rw [e] at hj <;> cases hj; exact hg')
  clear hb1' hsz1
  obtain ⟨vb, vd, rfl⟩ := owns_slice5 hown2
  refine hK.out _ _ (HSS.out _ hb2) (fun hS0 => ?_)
  clear hK
  simp only [Act.put, List.setIfInBounds_toArray, List.set_cons_zero, List.set_cons_succ]
  have hV2 : VOwn w2 V.heap.size (.slice vb (l.length + 1) vd) (l ++ [x]) := by
   unfold VOwn
   rw [vcells_append, List.length_append]
   simpa [vcells] using hown2
  have HF := Lib.hid (And.intro (HRV.out.below hb2) hV2)
  refine tk 6 (.pointer (some ⟨w.heap.size, 1, none⟩)) rfl ?_ hS0 ?_
  ·intro w' hSw; go_simp
  simp only [List.getElem_toArray, List.getElem_cons_succ, List.getElem_cons_zero, Act.put, List.setIfInBounds_toArray, List.set_cons_zero, List.set_cons_succ]
  refine wpAnyH_done (by kernel_rfl) ?_ _
  dsimp only [Exit.then]
  rw [if_pos (by rfl)]
  clear hown1 hgrow1 hloc1 hown2 hgrow2 hloc2 hb1 hb2 hV2 hS0
  obtain ⟨⟨c0, c1⟩, f0, f1⟩ := HF.out.1.1
  go_simp
  have hE3 := ec_putr HF.out.1.1 (.slice vb (l.length + 1) vd)
  have hlt : w.heap.size + 1 + 1 < V.heap.size := HRV.out.2.2.1.lt
  have hR3 : EC (w2.setCell ⟨w.heap.size, 1, none⟩ (.slice vb (l.length + 1) vd)) (w.heap.size + 1 + 1) ⟨#[]⟩ (.slice none 0 0) := HF.out.1.2.2.1.kept (Below.heap_setCell _ _ _ _ (by simp; omega))
  have hV3 : VOwn (w2.setCell ⟨w.heap.size, 1, none⟩ (.slice vb (l.length + 1) vd)) V.heap.size (.slice vb (l.length + 1) vd) (l ++ [x]) := HF.out.2.kept (fun j hj => Below.heap_setCell _ _ _ _ (by have := (HF.out.2.lt hj).1; simp; omega))
  have HG := Lib.hid (And.intro hV3 (HF.out.1.2.2.2.2.setCell (p := ⟨w.heap.size, 1, none⟩) (Nat.le_refl _) (.slice vb (l.length + 1) vd)))
  clear c0 c1 f0 f1 hV3
  generalize w2.setCell ⟨w.heap.size, 1, none⟩ (.slice vb (l.length + 1) vd) = W3 at *
  obtain ⟨⟨c0, c1⟩, f0, f1⟩ := hE3
  obtain ⟨⟨d0, d1⟩, e0, e1⟩ := hR3
  go_wp2_with fail
  have t0 : ((W3.setCell ⟨w.heap.size + 1 + 1, 0, none⟩ (.string key)).setCell ⟨w.heap.size + 1 + 1, 1, none⟩ (.slice vb (l.length + 1) vd)).cell? ⟨w.heap.size + 1 + 1, 0, none⟩ = some (.string key) := by go_simp
  have t1 : ((W3.setCell ⟨w.heap.size + 1 + 1, 0, none⟩ (.string key)).setCell ⟨w.heap.size + 1 + 1, 1, none⟩ (.slice vb (l.length + 1) vd)).cell? ⟨w.heap.size + 1 + 1, 1, none⟩ = some (.slice vb (l.length + 1) vd) := by go_simp
  have hV4 := HG.out.1.kept (w' := (W3.setCell ⟨w.heap.size + 1 + 1, 0, none⟩ (.string key)).setCell ⟨w.heap.size + 1 + 1, 1, none⟩ (.slice vb (l.length + 1) vd)) (fun j hj => by
   have := (HG.out.1.lt hj).1
   rw [Below.heap_setCell _ _ _ _ (by simp; omega), Below.heap_setCell _ _ _ _ (by simp; omega)])
  have hB4 := (HG.out.2.setCell (p := ⟨w.heap.size + 1 + 1, 0, none⟩) (by simp; omega) (.string key)).setCell (p := ⟨w.heap.size + 1 + 1, 1, none⟩) (by simp; omega) (.slice vb (l.length + 1) vd)
  have hln : (l ++ [x]).length = l.length + 1 := by simp
  refine bodyPost_ret (v := .tuple #[.agg #[.string key, .slice vb (l.length + 1) vd], .bool true]) (by simp [results, Tryz.results12, go_sem, t0, t1]) rfl ⟨vb, vd, ?_, ?_, hB4⟩
  ·dsimp only; rw [hln]
  ·dsimp only; rw [hln]; exact hV4.at
 ·--B
  simp only [List.getElem_toArray, List.getElem_cons_succ, List.getElem_cons_zero]
  go_simp
  have hb0 : Below V.heap.size V (V.drew.alloc (.cells #[.int .i64 x.ver, .bool x.gone, .string x.body] 26)) := HDR.out.alloc HDR.out.size _
  have hsz0 : V.heap.size ≤ (V.drew.alloc (.cells #[.int .i64 x.ver, .bool x.gone, .string x.body] 26)).heap.size := hb0.size
  have hnb := HNA.out V.drew
  refine hK.out _ _ (HSS.out _ hb0) (fun _ => ?_)
  clear hK
  refine wpAnyH_ready (rs := [2]) (by kernel_rfl) (by simp) ?_
  refine AllReadyH.cons rfl (fun K hK => ?_) AllReadyH.nil
  simp only [List.getElem_toArray, List.getElem_cons_succ, List.getElem_cons_zero]
  rw [if_pos (by rfl)]
  refine op_append_at (.const (.slice none 0 0)) (.tmp 30) _ rfl V.heap.size 26 i0 _ 3 32 Tryz.underlying22 hi hz0 hz1 hz2 rfl (by decide) (.slice none 0 0) 0 [] (by rfl) (World.ownsRow_nil _ _ _ _) ⟨g, o, none⟩ l.length cap (vcells l) (by rfl) hlen (HCL.out _ hb0).cells hone (by unfold maxLen; omega) (by omega) hsz0 ?_
  intro v1 w1 hown1 hgrow1 hloc1
  rw [Nat.zero_add, List.nil_append] at hown1
  have hb1 : Below V.heap.size V w1 := hb0.grown hgrow1 hsz0 (by intro j hj; simp [Value.ownBlock] at hj)
  have hnb1 : ∀ j u, ([.int .i64 x.ver, .bool x.gone, .string x.body] : List Value)[j]? = some u → w1.cell? ((⟨V.heap.size, 0, none⟩ : Addr).add j) = some u := fun j u hj => by
   have h5 := hnb j u hj
   rw [add_flat5] at h5 ⊢
   exact (hgrow1.cell_far ⟨V.heap.size, 0 + j, none⟩ (by simp) (by intro e; cases e)).trans h5
  have hsz1 : V.heap.size ≤ w1.heap.size := hb1.size
  obtain ⟨va, vc, rfl⟩ := owns_slice5 hown1
  refine hK.out _ _ (HSS.out _ hb1) (fun _ => ?_)
  clear hK
  simp only [Act.put, List.setIfInBounds_toArray, List.set_cons_zero, List.set_cons_succ]
  refine wpAnyH_ready (rs := [5]) (by kernel_rfl) (by simp) ?_
  refine AllReadyH.cons rfl (fun K hK => ?_) AllReadyH.nil
  simp only [List.getElem_toArray, List.getElem_cons_succ, List.getElem_cons_zero]
  rw [if_pos (by rfl)]
  refine op_append_at (.tmp 31) (.tmp 33) _ rfl V.heap.size 26 i0 _ 3 32 Tryz.underlying22 hi hz0 hz1 hz2 rfl (by decide) (.slice va l.length vc) l.length (vcells l) (by rfl) hown1 ⟨V.heap.size, 0, none⟩ 1 1 [.int .i64 x.ver, .bool x.gone, .string x.body] (by rfl) rfl hnb1 HONE.out (by unfold maxLen; omega) (by omega) hsz1 ?_
  intro v2 w2 hown2 hgrow2 hloc2
  have hb2 : Below V.heap.size V w2 := hb1.grown hgrow2 hsz1 (by intro j hj; rcases hown1.2 with ⟨e, _⟩ | ⟨g', c', cur, e, hg', _⟩ <;> rw [e] at hj <;> cases hj; exact hg')
  clear hb0 hsz0 hnb hnb1 hsz1
  obtain ⟨vb, vd, rfl⟩ := owns_slice5 hown2
  refine hK.out _ _ (HSS.out _ hb2) (fun hS0 => ?_)
  clear hK
  simp only [Act.put, List.setIfInBounds_toArray, List.set_cons_zero, List.set_cons_succ]
  have hV2 : VOwn w2 V.heap.size (.slice vb (l.length + 1) vd) (l ++ [x]) := by
   unfold VOwn
   rw [vcells_append, List.length_append]
   simpa [vcells] using hown2
  have HF := Lib.hid (And.intro (HRV.out.below hb2) hV2)
  refine tk 6 (.pointer (some ⟨w.heap.size, 1, none⟩)) rfl ?_ hS0 ?_
  ·intro w' hSw; go_simp
  simp only [List.getElem_toArray, List.getElem_cons_succ, List.getElem_cons_zero, Act.put, List.setIfInBounds_toArray, List.set_cons_zero, List.set_cons_succ]
  refine wpAnyH_done (by kernel_rfl) ?_ _
  dsimp only [Exit.then]
  rw [if_pos (by rfl)]
  clear hown1 hgrow1 hloc1 hown2 hgrow2 hloc2 hb1 hb2 hV2 hS0
  obtain ⟨⟨c0, c1⟩, f0, f1⟩ := HF.out.1.1
  go_simp
  have hE3 := ec_putr HF.out.1.1 (.slice vb (l.length + 1) vd)
  have hlt : w.heap.size + 1 + 1 < V.heap.size := HRV.out.2.2.1.lt
  have hR3 : EC (w2.setCell ⟨w.heap.size, 1, none⟩ (.slice vb (l.length + 1) vd)) (w.heap.size + 1 + 1) ⟨#[]⟩ (.slice none 0 0) := HF.out.1.2.2.1.kept (Below.heap_setCell _ _ _ _ (by simp; omega))
  have hV3 : VOwn (w2.setCell ⟨w.heap.size, 1, none⟩ (.slice vb (l.length + 1) vd)) V.heap.size (.slice vb (l.length + 1) vd) (l ++ [x]) := HF.out.2.kept (fun j hj => Below.heap_setCell _ _ _ _ (by have := (HF.out.2.lt hj).1; simp; omega))
  have HG := Lib.hid (And.intro hV3 (HF.out.1.2.2.2.2.setCell (p := ⟨w.heap.size, 1, none⟩) (Nat.le_refl _) (.slice vb (l.length + 1) vd)))
  clear c0 c1 f0 f1 hV3
  generalize w2.setCell ⟨w.heap.size, 1, none⟩ (.slice vb (l.length + 1) vd) = W3 at *
  obtain ⟨⟨c0, c1⟩, f0, f1⟩ := hE3
  obtain ⟨⟨d0, d1⟩, e0, e1⟩ := hR3
  go_wp2_with fail
  have t0 : ((W3.setCell ⟨w.heap.size + 1 + 1, 0, none⟩ (.string key)).setCell ⟨w.heap.size + 1 + 1, 1, none⟩ (.slice vb (l.length + 1) vd)).cell? ⟨w.heap.size + 1 + 1, 0, none⟩ = some (.string key) := by go_simp
  have t1 : ((W3.setCell ⟨w.heap.size + 1 + 1, 0, none⟩ (.string key)).setCell ⟨w.heap.size + 1 + 1, 1, none⟩ (.slice vb (l.length + 1) vd)).cell? ⟨w.heap.size + 1 + 1, 1, none⟩ = some (.slice vb (l.length + 1) vd) := by go_simp
  have hV4 := HG.out.1.kept (w' := (W3.setCell ⟨w.heap.size + 1 + 1, 0, none⟩ (.string key)).setCell ⟨w.heap.size + 1 + 1, 1, none⟩ (.slice vb (l.length + 1) vd)) (fun j hj => by
   have := (HG.out.1.lt hj).1
   rw [Below.heap_setCell _ _ _ _ (by simp; omega), Below.heap_setCell _ _ _ _ (by simp; omega)])
  have hB4 := (HG.out.2.setCell (p := ⟨w.heap.size + 1 + 1, 0, none⟩) (by simp; omega) (.string key)).setCell (p := ⟨w.heap.size + 1 + 1, 1, none⟩) (by simp; omega) (.slice vb (l.length + 1) vd)
  have hln : (l ++ [x]).length = l.length + 1 := by simp
  refine bodyPost_ret (v := .tuple #[.agg #[.string key, .slice vb (l.length + 1) vd], .bool true]) (by simp [results, Tryz.results12, go_sem, t0, t1]) rfl ⟨vb, vd, ?_, ?_, hB4⟩
  ·dsimp only; rw [hln]
  ·dsimp only; rw [hln]; exact hV4.at
theorem radd_z (key : ByteArray) (l : List Ve) (g o cap : Nat) (x : Ve) (w : World) (h : VsAt w (.slice (some ⟨g, o, none⟩) l.length cap) l) (hl0 : l.length = 0) (_hm : mayAdd l x.ver = true) :
  Calls Tryz.prog 12 #[.agg #[.string key, (.slice (some ⟨g, o, none⟩) l.length cap)], .agg #[.int .i64 x.ver, .bool x.gone, .string x.body]] w (REnt key (l ++ [x], true) w) := by
 obtain ⟨i0, hi, hz0, hz1, hz2⟩ := info_v
 have HB := Lib.hid (w3_below w key (some ⟨g, o, none⟩) l.length cap x 24 26)
 have h1 := w3_ec w key (some ⟨g, o, none⟩) l.length cap x 24 26
 have h2 := w3_vc w key (some ⟨g, o, none⟩) l.length cap x 24 26
 have h3 := w3_er w key (some ⟨g, o, none⟩) l.length cap x 24 26
 have HV := Lib.hid (h.below HB.out)
 unfold w3 at HB h1 h2 h3 HV
 clear h
 have hl0z : decide ((0 : Int) < (l.length : Int)) = false := decide_eq_false (by omega)
 have hl0y : ¬ (0 : Int) < (l.length : Int) := by omega
 have hl0n : ¬ 0 < l.length := by omega
 have hl0m : decide (0 < l.length) = false := decide_eq_false hl0n
 have h12l : decide ((12 : Int) ≤ (l.length : Int)) = false := decide_eq_false (by omega)
 have hlen12 : l.length < 12 := by omega
 clear _hm hl0
 go_enter Tryz.func12, Tryz.ntmps12
 go_wp2_with fail
 generalize ((w.alloc (.cells #[.string key, (.slice (some ⟨g, o, none⟩) l.length cap)] 24)).alloc (.cells #[.int .i64 x.ver, .bool x.gone, .string x.body] 26)).alloc (.cells #[.string ⟨#[]⟩, .slice none 0 0] 24) = W at *
 have HR := Lib.hid (show RAdd w W key (.slice (some ⟨g, o, none⟩) l.length cap) l x from ⟨h1, h2, h3, HV.out, HB.out⟩)
 obtain ⟨⟨c0, c1⟩, f0, f1⟩ := h1
 obtain ⟨⟨x0, x1, x2⟩, _⟩ := h2
 clear h3 HV HB
 go_quiet (fail)
 have HRV := Lib.hid (HR.out.below (below_drewN (Below.refl W.heap.size W) nq))
 clear c0 c1 f0 f1 x0 x1 x2 HR
 generalize W.drewN nq = V at *
 have HSS : Hid (∀ Y, Below V.heap.size V Y → Y.cell? ⟨w.heap.size, 1, none⟩ = some ((.slice (some ⟨g, o, none⟩) l.length cap)) ∧ Y.cell? ⟨w.heap.size + 1, 0, none⟩ = some (.int .i64 x.ver) ∧ Y.cell? ⟨w.heap.size + 1, 1, none⟩ = some (.bool x.gone) ∧ Y.cell? ⟨w.heap.size + 1, 2, none⟩ = some (.string x.body)) := Lib.hid (fun Y hY => ⟨((HRV.out.below hY).1).1.2, ((HRV.out.below hY).2.1).1⟩)
 have HCL : Hid (∀ Y, Below V.heap.size V Y → VsAt Y (.slice (some ⟨g, o, none⟩) l.length cap) l) := Lib.hid (fun Y hY => HRV.out.2.2.2.1.below hY)
 have hone := vcells_one l
 have hlen := vcells_length l
 have hdr : Below V.heap.size V V.drew := (Below.refl V.heap.size V).drew
 have HDR := Lib.hid hdr
 have hS0 := HSS.out _ hdr
 have HONE : Hid (∀ u ∈ ([.int .i64 x.ver, .bool x.gone, .string x.body] : List Value), u.oneCell' = true) := Lib.hid (by intro u hu; simp at hu; rcases hu with rfl | rfl | rfl <;> rfl)
 have HNA : Hid (∀ Y : World, ∀ j u, ([.int .i64 x.ver, .bool x.gone, .string x.body] : List Value)[j]? = some u → (Y.alloc (.cells #[.int .i64 x.ver, .bool x.gone, .string x.body] 26)).cell? ((⟨Y.heap.size, 0, none⟩ : Addr).add j) = some u) := Lib.hid (fun Y => World.news_of_block (cs := #[.int .i64 x.ver, .bool x.gone, .string x.body]) (heap_alloc_new Y _))
 clear hdr
 go_wp2_with fail
 refine wp_region_last (S := fun Y => Y.cell? ⟨w.heap.size, 1, none⟩ = some ((.slice (some ⟨g, o, none⟩) l.length cap)) ∧ Y.cell? ⟨w.heap.size + 1, 0, none⟩ = some (.int .i64 x.ver) ∧ Y.cell? ⟨w.heap.size + 1, 1, none⟩ = some (.bool x.gone) ∧ Y.cell? ⟨w.heap.size + 1, 2, none⟩ = some (.string x.body)) (by kernel_rfl) (ops := List.toArray [_, _, _, _, _, _, _]) (o := _) rfl (by kernel_rfl) ?_
 refine tk 0 (.pointer (some ⟨w.heap.size, 1, none⟩)) rfl ?_ hS0 ?_
 ·intro w' hSw; go_simp
 refine tk 1 ((.slice (some ⟨g, o, none⟩) l.length cap)) rfl ?_ hS0 ?_
 ·intro w' hSw; obtain ⟨s0, _⟩ := hSw; go_simp
 refine tk 3 (.agg #[.int .i64 x.ver, .bool x.gone, .string x.body]) rfl ?_ hS0 ?_
 ·intro w' hSw; obtain ⟨_, s0, s1, s2⟩ := hSw; go_simp
 simp only [List.getElem_toArray, List.getElem_cons_succ, List.getElem_cons_zero, Act.put, List.setIfInBounds_toArray, List.set_cons_zero, List.set_cons_succ]
 refine wpAnyH_ready (rs := [2, 4]) (by kernel_rfl) (by simp) ?_
 refine AllReadyH.cons rfl (fun K hK => ?_) (AllReadyH.cons rfl (fun K hK => ?_) AllReadyH.nil)
 ·--A
  simp only [List.getElem_toArray, List.getElem_cons_succ, List.getElem_cons_zero]
  rw [if_pos (by rfl)]
  refine op_append_at (.const (.slice none 0 0)) (.tmp 30) _ rfl V.heap.size 26 i0 _ 3 32 Tryz.underlying22 hi hz0 hz1 hz2 rfl (by decide) (.slice none 0 0) 0 [] (by rfl) (World.ownsRow_nil _ _ _ _) ⟨g, o, none⟩ l.length cap (vcells l) (by rfl) hlen (HCL.out _ HDR.out).cells hone (by unfold maxLen; omega) (by omega) (Nat.le_refl _) ?_
  intro v1 w1 hown1 hgrow1 hloc1
  rw [Nat.zero_add, List.nil_append] at hown1
  have hb1 : Below V.heap.size V w1 := HDR.out.grown hgrow1 (Nat.le_refl _) (by intro j hj; simp [Value.ownBlock] at hj)
  obtain ⟨va, vc, rfl⟩ := owns_slice5 hown1
  refine hK.out _ _ (HSS.out _ hb1) (fun _ => ?_)
  clear hK
  simp only [Act.put, List.setIfInBounds_toArray, List.set_cons_zero, List.set_cons_succ]
  refine wpAnyH_ready (rs := [4]) (by kernel_rfl) (by simp) ?_
  refine AllReadyH.cons rfl (fun K hK => ?_) AllReadyH.nil
  simp only [List.getElem_toArray, List.getElem_cons_succ, List.getElem_cons_zero]
  go_simp
  have hb1' : Below V.heap.size V (w1.alloc (.cells #[.int .i64 x.ver, .bool x.gone, .string x.body] 26)) := hb1.alloc hb1.size _
  have hsz1 : V.heap.size ≤ (w1.alloc (.cells #[.int .i64 x.ver, .bool x.gone, .string x.body] 26)).heap.size := hb1'.size
  refine hK.out _ _ (HSS.out _ hb1') (fun _ => ?_)
  clear hK
  refine wpAnyH_ready (rs := [5]) (by kernel_rfl) (by simp) ?_
  refine AllReadyH.cons rfl (fun K hK => ?_) AllReadyH.nil
  simp only [List.getElem_toArray, List.getElem_cons_succ, List.getElem_cons_zero]
  rw [if_pos (by rfl)]
  refine op_append_at (.tmp 31) (.tmp 33) _ rfl V.heap.size 26 i0 _ 3 32 Tryz.underlying22 hi hz0 hz1 hz2 rfl (by decide) (.slice va l.length vc) l.length (vcells l) (by rfl) (hown1.alloc _) ⟨w1.heap.size, 0, none⟩ 1 1 [.int .i64 x.ver, .bool x.gone, .string x.body] (by rfl) rfl (HNA.out w1) HONE.out (by unfold maxLen; omega) (by omega) hsz1 ?_
  intro v2 w2 hown2 hgrow2 hloc2
  have hb2 : Below V.heap.size V w2 := hb1'.grown hgrow2 hsz1 (by intro j hj; rcases hown1.2 with ⟨e, _⟩ | ⟨g', c', cur, e, hg', _⟩ <;> rw [e] at hj <;> cases hj; exact hg')
  clear hb1' hsz1
  obtain ⟨vb, vd, rfl⟩ := owns_slice5 hown2
  refine hK.out _ _ (HSS.out _ hb2) (fun hS0 => ?_)
  clear hK
  simp only [Act.put, List.setIfInBounds_toArray, List.set_cons_zero, List.set_cons_succ]
  have hV2 : VOwn w2 V.heap.size (.slice vb (l.length + 1) vd) (l ++ [x]) := by
   unfold VOwn
   rw [vcells_append, List.length_append]
   simpa [vcells] using hown2
  have HF := Lib.hid (And.intro (HRV.out.below hb2) hV2)
  refine tk 6 (.pointer (some ⟨w.heap.size, 1, none⟩)) rfl ?_ hS0 ?_
  ·intro w' hSw; go_simp
  simp only [List.getElem_toArray, List.getElem_cons_succ, List.getElem_cons_zero, Act.put, List.setIfInBounds_toArray, List.set_cons_zero, List.set_cons_succ]
  refine wpAnyH_done (by kernel_rfl) ?_ _
  dsimp only [Exit.then]
  rw [if_pos (by rfl)]
  clear hown1 hgrow1 hloc1 hown2 hgrow2 hloc2 hb1 hb2 hV2 hS0
  obtain ⟨⟨c0, c1⟩, f0, f1⟩ := HF.out.1.1
  go_simp
  have hE3 := ec_putr HF.out.1.1 (.slice vb (l.length + 1) vd)
  have hlt : w.heap.size + 1 + 1 < V.heap.size := HRV.out.2.2.1.lt
  have hR3 : EC (w2.setCell ⟨w.heap.size, 1, none⟩ (.slice vb (l.length + 1) vd)) (w.heap.size + 1 + 1) ⟨#[]⟩ (.slice none 0 0) := HF.out.1.2.2.1.kept (Below.heap_setCell _ _ _ _ (by simp; omega))
  have hV3 : VOwn (w2.setCell ⟨w.heap.size, 1, none⟩ (.slice vb (l.length + 1) vd)) V.heap.size (.slice vb (l.length + 1) vd) (l ++ [x]) := HF.out.2.kept (fun j hj => Below.heap_setCell _ _ _ _ (by have := (HF.out.2.lt hj).1; simp; omega))
  have HG := Lib.hid (And.intro hV3 (HF.out.1.2.2.2.2.setCell (p := ⟨w.heap.size, 1, none⟩) (Nat.le_refl _) (.slice vb (l.length + 1) vd)))
  clear c0 c1 f0 f1 hV3
  generalize w2.setCell ⟨w.heap.size, 1, none⟩ (.slice vb (l.length + 1) vd) = W3 at *
  obtain ⟨⟨c0, c1⟩, f0, f1⟩ := hE3
  obtain ⟨⟨d0, d1⟩, e0, e1⟩ := hR3
  go_wp2_with fail
  have t0 : ((W3.setCell ⟨w.heap.size + 1 + 1, 0, none⟩ (.string key)).setCell ⟨w.heap.size + 1 + 1, 1, none⟩ (.slice vb (l.length + 1) vd)).cell? ⟨w.heap.size + 1 + 1, 0, none⟩ = some (.string key) := by go_simp
  have t1 : ((W3.setCell ⟨w.heap.size + 1 + 1, 0, none⟩ (.string key)).setCell ⟨w.heap.size + 1 + 1, 1, none⟩ (.slice vb (l.length + 1) vd)).cell? ⟨w.heap.size + 1 + 1, 1, none⟩ = some (.slice vb (l.length + 1) vd) := by go_simp
  have hV4 := HG.out.1.kept (w' := (W3.setCell ⟨w.heap.size + 1 + 1, 0, none⟩ (.string key)).setCell ⟨w.heap.size + 1 + 1, 1, none⟩ (.slice vb (l.length + 1) vd)) (fun j hj => by
   have := (HG.out.1.lt hj).1
   rw [Below.heap_setCell _ _ _ _ (by simp; omega), Below.heap_setCell _ _ _ _ (by simp; omega)])
  have hB4 := (HG.out.2.setCell (p := ⟨w.heap.size + 1 + 1, 0, none⟩) (by simp; omega) (.string key)).setCell (p := ⟨w.heap.size + 1 + 1, 1, none⟩) (by simp; omega) (.slice vb (l.length + 1) vd)
  have hln : (l ++ [x]).length = l.length + 1 := by simp
  refine bodyPost_ret (v := .tuple #[.agg #[.string key, .slice vb (l.length + 1) vd], .bool true]) (by simp [results, Tryz.results12, go_sem, t0, t1]) rfl ⟨vb, vd, ?_, ?_, hB4⟩
  ·dsimp only; rw [hln]
  ·dsimp only; rw [hln]; exact hV4.at
 ·--B
  simp only [List.getElem_toArray, List.getElem_cons_succ, List.getElem_cons_zero]
  go_simp
  have hb0 : Below V.heap.size V (V.drew.alloc (.cells #[.int .i64 x.ver, .bool x.gone, .string x.body] 26)) := HDR.out.alloc HDR.out.size _
  have hsz0 : V.heap.size ≤ (V.drew.alloc (.cells #[.int .i64 x.ver, .bool x.gone, .string x.body] 26)).heap.size := hb0.size
  have hnb := HNA.out V.drew
  refine hK.out _ _ (HSS.out _ hb0) (fun _ => ?_)
  clear hK
  refine wpAnyH_ready (rs := [2]) (by kernel_rfl) (by simp) ?_
  refine AllReadyH.cons rfl (fun K hK => ?_) AllReadyH.nil
  simp only [List.getElem_toArray, List.getElem_cons_succ, List.getElem_cons_zero]
  rw [if_pos (by rfl)]
  refine op_append_at (.const (.slice none 0 0)) (.tmp 30) _ rfl V.heap.size 26 i0 _ 3 32 Tryz.underlying22 hi hz0 hz1 hz2 rfl (by decide) (.slice none 0 0) 0 [] (by rfl) (World.ownsRow_nil _ _ _ _) ⟨g, o, none⟩ l.length cap (vcells l) (by rfl) hlen (HCL.out _ hb0).cells hone (by unfold maxLen; omega) (by omega) hsz0 ?_
  intro v1 w1 hown1 hgrow1 hloc1
  rw [Nat.zero_add, List.nil_append] at hown1
  have hb1 : Below V.heap.size V w1 := hb0.grown hgrow1 hsz0 (by intro j hj; simp [Value.ownBlock] at hj)
  have hnb1 : ∀ j u, ([.int .i64 x.ver, .bool x.gone, .string x.body] : List Value)[j]? = some u → w1.cell? ((⟨V.heap.size, 0, none⟩ : Addr).add j) = some u := fun j u hj => by
   have h5 := hnb j u hj
   rw [add_flat5] at h5 ⊢
   exact (hgrow1.cell_far ⟨V.heap.size, 0 + j, none⟩ (by simp) (by intro e; cases e)).trans h5
  have hsz1 : V.heap.size ≤ w1.heap.size := hb1.size
  obtain ⟨va, vc, rfl⟩ := owns_slice5 hown1
  refine hK.out _ _ (HSS.out _ hb1) (fun _ => ?_)
  clear hK
  simp only [Act.put, List.setIfInBounds_toArray, List.set_cons_zero, List.set_cons_succ]
  refine wpAnyH_ready (rs := [5]) (by kernel_rfl) (by simp) ?_
  refine AllReadyH.cons rfl (fun K hK => ?_) AllReadyH.nil
  simp only [List.getElem_toArray, List.getElem_cons_succ, List.getElem_cons_zero]
  rw [if_pos (by rfl)]
  refine op_append_at (.tmp 31) (.tmp 33) _ rfl V.heap.size 26 i0 _ 3 32 Tryz.underlying22 hi hz0 hz1 hz2 rfl (by decide) (.slice va l.length vc) l.length (vcells l) (by rfl) hown1 ⟨V.heap.size, 0, none⟩ 1 1 [.int .i64 x.ver, .bool x.gone, .string x.body] (by rfl) rfl hnb1 HONE.out (by unfold maxLen; omega) (by omega) hsz1 ?_
  intro v2 w2 hown2 hgrow2 hloc2
  have hb2 : Below V.heap.size V w2 := hb1.grown hgrow2 hsz1 (by intro j hj; rcases hown1.2 with ⟨e, _⟩ | ⟨g', c', cur, e, hg', _⟩ <;> rw [e] at hj <;> cases hj; exact hg')
  clear hb0 hsz0 hnb hnb1 hsz1
  obtain ⟨vb, vd, rfl⟩ := owns_slice5 hown2
  refine hK.out _ _ (HSS.out _ hb2) (fun hS0 => ?_)
  clear hK
  simp only [Act.put, List.setIfInBounds_toArray, List.set_cons_zero, List.set_cons_succ]
  have hV2 : VOwn w2 V.heap.size (.slice vb (l.length + 1) vd) (l ++ [x]) := by
   unfold VOwn
   rw [vcells_append, List.length_append]
   simpa [vcells] using hown2
  have HF := Lib.hid (And.intro (HRV.out.below hb2) hV2)
  refine tk 6 (.pointer (some ⟨w.heap.size, 1, none⟩)) rfl ?_ hS0 ?_
  ·intro w' hSw; go_simp
  simp only [List.getElem_toArray, List.getElem_cons_succ, List.getElem_cons_zero, Act.put, List.setIfInBounds_toArray, List.set_cons_zero, List.set_cons_succ]
  refine wpAnyH_done (by kernel_rfl) ?_ _
  dsimp only [Exit.then]
  rw [if_pos (by rfl)]
  clear hown1 hgrow1 hloc1 hown2 hgrow2 hloc2 hb1 hb2 hV2 hS0
  obtain ⟨⟨c0, c1⟩, f0, f1⟩ := HF.out.1.1
  go_simp
  have hE3 := ec_putr HF.out.1.1 (.slice vb (l.length + 1) vd)
  have hlt : w.heap.size + 1 + 1 < V.heap.size := HRV.out.2.2.1.lt
  have hR3 : EC (w2.setCell ⟨w.heap.size, 1, none⟩ (.slice vb (l.length + 1) vd)) (w.heap.size + 1 + 1) ⟨#[]⟩ (.slice none 0 0) := HF.out.1.2.2.1.kept (Below.heap_setCell _ _ _ _ (by simp; omega))
  have hV3 : VOwn (w2.setCell ⟨w.heap.size, 1, none⟩ (.slice vb (l.length + 1) vd)) V.heap.size (.slice vb (l.length + 1) vd) (l ++ [x]) := HF.out.2.kept (fun j hj => Below.heap_setCell _ _ _ _ (by have := (HF.out.2.lt hj).1; simp; omega))
  have HG := Lib.hid (And.intro hV3 (HF.out.1.2.2.2.2.setCell (p := ⟨w.heap.size, 1, none⟩) (Nat.le_refl _) (.slice vb (l.length + 1) vd)))
  clear c0 c1 f0 f1 hV3
  generalize w2.setCell ⟨w.heap.size, 1, none⟩ (.slice vb (l.length + 1) vd) = W3 at *
  obtain ⟨⟨c0, c1⟩, f0, f1⟩ := hE3
  obtain ⟨⟨d0, d1⟩, e0, e1⟩ := hR3
  go_wp2_with fail
  have t0 : ((W3.setCell ⟨w.heap.size + 1 + 1, 0, none⟩ (.string key)).setCell ⟨w.heap.size + 1 + 1, 1, none⟩ (.slice vb (l.length + 1) vd)).cell? ⟨w.heap.size + 1 + 1, 0, none⟩ = some (.string key) := by go_simp
  have t1 : ((W3.setCell ⟨w.heap.size + 1 + 1, 0, none⟩ (.string key)).setCell ⟨w.heap.size + 1 + 1, 1, none⟩ (.slice vb (l.length + 1) vd)).cell? ⟨w.heap.size + 1 + 1, 1, none⟩ = some (.slice vb (l.length + 1) vd) := by go_simp
  have hV4 := HG.out.1.kept (w' := (W3.setCell ⟨w.heap.size + 1 + 1, 0, none⟩ (.string key)).setCell ⟨w.heap.size + 1 + 1, 1, none⟩ (.slice vb (l.length + 1) vd)) (fun j hj => by
   have := (HG.out.1.lt hj).1
   rw [Below.heap_setCell _ _ _ _ (by simp; omega), Below.heap_setCell _ _ _ _ (by simp; omega)])
  have hB4 := (HG.out.2.setCell (p := ⟨w.heap.size + 1 + 1, 0, none⟩) (by simp; omega) (.string key)).setCell (p := ⟨w.heap.size + 1 + 1, 1, none⟩) (by simp; omega) (.slice vb (l.length + 1) vd)
  have hln : (l ++ [x]).length = l.length + 1 := by simp
  refine bodyPost_ret (v := .tuple #[.agg #[.string key, .slice vb (l.length + 1) vd], .bool true]) (by simp [results, Tryz.results12, go_sem, t0, t1]) rfl ⟨vb, vd, ?_, ?_, hB4⟩
  ·dsimp only; rw [hln]
  ·dsimp only; rw [hln]; exact hV4.at
theorem radd_n (key : ByteArray)  (x : Ve) (w : World) (h : VsAt w (.slice none 0 0) ([] : List Ve))  (_hm : mayAdd ([] : List Ve) x.ver = true) :
  Calls Tryz.prog 12 #[.agg #[.string key, (.slice none 0 0)], .agg #[.int .i64 x.ver, .bool x.gone, .string x.body]] w (REnt key (([] : List Ve) ++ [x], true) w) := by
 obtain ⟨i0, hi, hz0, hz1, hz2⟩ := info_v
 have HB := Lib.hid (w3_below w key none 0 0 x 24 26)
 have h1 := w3_ec w key none 0 0 x 24 26
 have h2 := w3_vc w key none 0 0 x 24 26
 have h3 := w3_er w key none 0 0 x 24 26
 have HV := Lib.hid (h.below HB.out)
 unfold w3 at HB h1 h2 h3 HV
 clear h
 clear _hm
 go_enter Tryz.func12, Tryz.ntmps12
 go_wp2_with fail
 generalize ((w.alloc (.cells #[.string key, (.slice none 0 0)] 24)).alloc (.cells #[.int .i64 x.ver, .bool x.gone, .string x.body] 26)).alloc (.cells #[.string ⟨#[]⟩, .slice none 0 0] 24) = W at *
 have HR := Lib.hid (show RAdd w W key (.slice none 0 0) ([] : List Ve) x from ⟨h1, h2, h3, HV.out, HB.out⟩)
 obtain ⟨⟨c0, c1⟩, f0, f1⟩ := h1
 obtain ⟨⟨x0, x1, x2⟩, _⟩ := h2
 clear h3 HV HB
 go_quiet (fail)
 have HRV := Lib.hid (HR.out.below (below_drewN (Below.refl W.heap.size W) nq))
 clear c0 c1 f0 f1 x0 x1 x2 HR
 generalize W.drewN nq = V at *
 have HSS : Hid (∀ Y, Below V.heap.size V Y → Y.cell? ⟨w.heap.size, 1, none⟩ = some ((.slice none 0 0)) ∧ Y.cell? ⟨w.heap.size + 1, 0, none⟩ = some (.int .i64 x.ver) ∧ Y.cell? ⟨w.heap.size + 1, 1, none⟩ = some (.bool x.gone) ∧ Y.cell? ⟨w.heap.size + 1, 2, none⟩ = some (.string x.body)) := Lib.hid (fun Y hY => ⟨((HRV.out.below hY).1).1.2, ((HRV.out.below hY).2.1).1⟩)
 have HCL : Hid (∀ Y, Below V.heap.size V Y → VsAt Y (.slice none 0 0) ([] : List Ve)) := Lib.hid (fun Y hY => HRV.out.2.2.2.1.below hY)
 have hone := vcells_one ([] : List Ve)
 have hlen := vcells_length ([] : List Ve)
 have hdr : Below V.heap.size V V.drew := (Below.refl V.heap.size V).drew
 have HDR := Lib.hid hdr
 have hS0 := HSS.out _ hdr
 have HONE : Hid (∀ u ∈ ([.int .i64 x.ver, .bool x.gone, .string x.body] : List Value), u.oneCell' = true) := Lib.hid (by intro u hu; simp at hu; rcases hu with rfl | rfl | rfl <;> rfl)
 have HNA : Hid (∀ Y : World, ∀ j u, ([.int .i64 x.ver, .bool x.gone, .string x.body] : List Value)[j]? = some u → (Y.alloc (.cells #[.int .i64 x.ver, .bool x.gone, .string x.body] 26)).cell? ((⟨Y.heap.size, 0, none⟩ : Addr).add j) = some u) := Lib.hid (fun Y => World.news_of_block (cs := #[.int .i64 x.ver, .bool x.gone, .string x.body]) (heap_alloc_new Y _))
 clear hdr
 go_wp2_with fail
 refine wp_region_last (S := fun Y => Y.cell? ⟨w.heap.size, 1, none⟩ = some ((.slice none 0 0)) ∧ Y.cell? ⟨w.heap.size + 1, 0, none⟩ = some (.int .i64 x.ver) ∧ Y.cell? ⟨w.heap.size + 1, 1, none⟩ = some (.bool x.gone) ∧ Y.cell? ⟨w.heap.size + 1, 2, none⟩ = some (.string x.body)) (by kernel_rfl) (ops := List.toArray [_, _, _, _, _, _, _]) (o := _) rfl (by kernel_rfl) ?_
 refine tk 0 (.pointer (some ⟨w.heap.size, 1, none⟩)) rfl ?_ hS0 ?_
 ·intro w' hSw; go_simp
 refine tk 1 ((.slice none 0 0)) rfl ?_ hS0 ?_
 ·intro w' hSw; obtain ⟨s0, _⟩ := hSw; go_simp
 refine tk 3 (.agg #[.int .i64 x.ver, .bool x.gone, .string x.body]) rfl ?_ hS0 ?_
 ·intro w' hSw; obtain ⟨_, s0, s1, s2⟩ := hSw; go_simp
 refine tk 2 (.slice none 0 0) rfl ?_ hS0 ?_
 ·intro w' hSw; have hru := fun ty => run_app_nil (P := Tryz.prog) (w := w') 22 ty 26 i0 Tryz.underlying22 hi; go_simp
 simp only [List.getElem_toArray, List.getElem_cons_succ, List.getElem_cons_zero, Act.put, List.setIfInBounds_toArray, List.set_cons_zero, List.set_cons_succ]
 refine wpAnyH_ready (rs := [4]) (by kernel_rfl) (by simp) ?_
 refine AllReadyH.cons rfl (fun K hK => ?_) AllReadyH.nil
 simp only [List.getElem_toArray, List.getElem_cons_succ, List.getElem_cons_zero]
 go_simp
 have hb0 : Below V.heap.size V (V.drew.alloc (.cells #[.int .i64 x.ver, .bool x.gone, .string x.body] 26)) := HDR.out.alloc HDR.out.size _
 have hsz0 : V.heap.size ≤ (V.drew.alloc (.cells #[.int .i64 x.ver, .bool x.gone, .string x.body] 26)).heap.size := hb0.size
 refine hK.out _ _ (HSS.out _ hb0) (fun _ => ?_)
 clear hK
 refine wpAnyH_ready (rs := [5]) (by kernel_rfl) (by simp) ?_
 refine AllReadyH.cons rfl (fun K hK => ?_) AllReadyH.nil
 simp only [List.getElem_toArray, List.getElem_cons_succ, List.getElem_cons_zero]
 rw [if_pos (by rfl)]
 refine op_append_at (.tmp 31) (.tmp 33) _ rfl V.heap.size 26 i0 _ 3 32 Tryz.underlying22 hi hz0 hz1 hz2 rfl (by decide) (.slice none 0 0) 0 [] (by rfl) (World.ownsRow_nil _ _ _ _) ⟨V.heap.size, 0, none⟩ 1 1 [.int .i64 x.ver, .bool x.gone, .string x.body] (by rfl) rfl (HNA.out V.drew) HONE.out (by unfold maxLen; omega) (by omega) hsz0 ?_
 intro v2 w2 hown2 hgrow2 hloc2
 rw [Nat.zero_add, List.nil_append] at hown2
 have hb2 : Below V.heap.size V w2 := hb0.grown hgrow2 hsz0 (by intro j hj; simp [Value.ownBlock] at hj)
 clear hb0 hsz0
 obtain ⟨vb, vd, rfl⟩ := owns_slice5 hown2
 refine hK.out _ _ (HSS.out _ hb2) (fun hS0 => ?_)
 clear hK
 simp only [Act.put, List.setIfInBounds_toArray, List.set_cons_zero, List.set_cons_succ]
 have hV2 : VOwn w2 V.heap.size (.slice vb 1 vd) (([] : List Ve) ++ [x]) := by
  unfold VOwn
  simpa [vcells] using hown2
 have HF := Lib.hid (And.intro (HRV.out.below hb2) hV2)
 refine tk 6 (.pointer (some ⟨w.heap.size, 1, none⟩)) rfl ?_ hS0 ?_
 ·intro w' hSw; go_simp
 simp only [List.getElem_toArray, List.getElem_cons_succ, List.getElem_cons_zero, Act.put, List.setIfInBounds_toArray, List.set_cons_zero, List.set_cons_succ]
 refine wpAnyH_done (by kernel_rfl) ?_ _
 dsimp only [Exit.then]
 rw [if_pos (by rfl)]
 clear hown2 hgrow2 hloc2 hb2 hV2 hS0
 obtain ⟨⟨c0, c1⟩, f0, f1⟩ := HF.out.1.1
 go_simp
 have hE3 := ec_putr HF.out.1.1 (.slice vb 1 vd)
 have hlt : w.heap.size + 1 + 1 < V.heap.size := HRV.out.2.2.1.lt
 have hR3 : EC (w2.setCell ⟨w.heap.size, 1, none⟩ (.slice vb 1 vd)) (w.heap.size + 1 + 1) ⟨#[]⟩ (.slice none 0 0) := HF.out.1.2.2.1.kept (Below.heap_setCell _ _ _ _ (by simp; omega))
 have hV3 : VOwn (w2.setCell ⟨w.heap.size, 1, none⟩ (.slice vb 1 vd)) V.heap.size (.slice vb 1 vd) (([] : List Ve) ++ [x]) := HF.out.2.kept (fun j hj => Below.heap_setCell _ _ _ _ (by have := (HF.out.2.lt hj).1; simp; omega))
 have HG := Lib.hid (And.intro hV3 (HF.out.1.2.2.2.2.setCell (p := ⟨w.heap.size, 1, none⟩) (Nat.le_refl _) (.slice vb 1 vd)))
 clear c0 c1 f0 f1 hV3
 generalize w2.setCell ⟨w.heap.size, 1, none⟩ (.slice vb 1 vd) = W3 at *
 obtain ⟨⟨c0, c1⟩, f0, f1⟩ := hE3
 obtain ⟨⟨d0, d1⟩, e0, e1⟩ := hR3
 go_wp2_with fail
 have t0 : ((W3.setCell ⟨w.heap.size + 1 + 1, 0, none⟩ (.string key)).setCell ⟨w.heap.size + 1 + 1, 1, none⟩ (.slice vb 1 vd)).cell? ⟨w.heap.size + 1 + 1, 0, none⟩ = some (.string key) := by go_simp
 have t1 : ((W3.setCell ⟨w.heap.size + 1 + 1, 0, none⟩ (.string key)).setCell ⟨w.heap.size + 1 + 1, 1, none⟩ (.slice vb 1 vd)).cell? ⟨w.heap.size + 1 + 1, 1, none⟩ = some (.slice vb 1 vd) := by go_simp
 have hV4 := HG.out.1.kept (w' := (W3.setCell ⟨w.heap.size + 1 + 1, 0, none⟩ (.string key)).setCell ⟨w.heap.size + 1 + 1, 1, none⟩ (.slice vb 1 vd)) (fun j hj => by
  have := (HG.out.1.lt hj).1
  rw [Below.heap_setCell _ _ _ _ (by simp; omega), Below.heap_setCell _ _ _ _ (by simp; omega)])
 have hB4 := (HG.out.2.setCell (p := ⟨w.heap.size + 1 + 1, 0, none⟩) (by simp; omega) (.string key)).setCell (p := ⟨w.heap.size + 1 + 1, 1, none⟩) (by simp; omega) (.slice vb 1 vd)
 have hln : (([] : List Ve) ++ [x]).length = 1 := by simp
 refine bodyPost_ret (v := .tuple #[.agg #[.string key, .slice vb 1 vd], .bool true]) (by simp [results, Tryz.results12, go_sem, t0, t1]) rfl ⟨vb, vd, ?_, ?_, hB4⟩
 ·rfl
 ·exact hV4.at
theorem radd_p (key : ByteArray) (v : Value) (l : List Ve) (x : Ve) (w : World) (h : VsAt w v l) (hn : l.length ≤ 1000000) :
  Calls Tryz.prog 12 #[.agg #[.string key, v], .agg #[.int .i64 x.ver, .bool x.gone, .string x.body]] w (REnt key (addE l x) w) := by
 unfold addE
 cases hm : mayAdd l x.ver with
 | false => exact radd_no key v l x w h hn hm
 | true =>
  have h' := h
  rcases h with ⟨rfl, rfl⟩ | ⟨g, o, cap, rfl, _, _, _, _⟩
  ·exact radd_n key x w h' hm
  ·by_cases hl : l.length = 0
   ·exact radd_z key l g o cap x w h' hl hm
   ·exact radd_k key l g o cap x w h' (fun e => hl (by rw [e]; rfl)) hm
end Go.Proofs.YtlajbminbdhpaaaGreatDoor
