/-
  Contracts of the program, and what they rest on.
-/
import Derived.Test.YtaacdggjkfmehaaGreatDoorM28
import Derived.Test.YtaacdggjkfmehaaGreatDoorM20
namespace Go.Proofs.YtaacdggjkfmehaaGreatDoor
open Go.RowKit Go.Maps Go.Proofs.MapD Go.Proofs.Chest
theorem nums_cells {w : World} {A : Nat → Prop} {b : Nat} : ∀ (ns : List Int) (o k : Nat) (x : Int), RepA w A b o (numsF ns) → ns[k]? = some x →
    w.cell? ⟨b, o + k * 4, none⟩ = some (.int .i64 1) ∧ w.cell? ⟨b, o + k * 4 + 1, none⟩ = some (.int .i64 x) ∧ w.cell? ⟨b, o + k * 4 + 2, none⟩ = some (.string ⟨#[]⟩) ∧ ∃ ad cap, w.cell? ⟨b, o + k * 4 + 3, none⟩ = some (.slice ad 0 cap)
  | n :: l, o, 0, x, h, hx => by
    obtain ⟨_, h0, h1, h2, ⟨ad, cap, h3, _⟩, _⟩ := h
    obtain rfl : n = x := by simpa using hx
    simp only [Nat.zero_mul, Nat.add_zero]
    exact ⟨h0, h1, h2, ad, cap, h3⟩
  | n :: l, o, k + 1, x, h, hx => by
    obtain ⟨_, _, _, _, _, h5⟩ := h
    have := nums_cells l (o + 4) k x h5 (by simpa using hx)
    rw [show o + (k + 1) * 4 = o + 4 + k * 4 by omega]
    exact this
  | [], _, _, _, _, hx => by simp at hx
structure RdR (w : World) (e nw : Int) (l : List Int) (br b o : Nat) (k : Nat) (la : Option Addr) (lc : Nat) (wr : World) : Prop where
  box : RC wr br e (.slice la k lc) nw
  own : IOwn wr (br + 1) (.slice la k lc) (l.take k)
  zero : RC wr w.heap.size 0 (.slice none 0 0) 0
  rep : RepA wr (fun j => w.heap.size + 1 ≤ j ∧ j < br) b o (numsF (e :: nw :: l))
  bl : Below w.heap.size w wr
  gt : w.heap.size < br
  ge : br + 1 ≤ wr.heap.size
theorem RdR.step {w wr W3 : World} {e nw : Int} {l : List Int} {br b o k : Nat} {la : Option Addr} {lc : Nat} {x : Int} {v' : Value} (h : RdR w e nw l br b o k la lc wr) (hx : l[k]? = some x) (hk : k < l.length)
    {c0 c1 : Obj} (hown : W3.ownsRow (br + 1) 3 1 v' (k + 1) (icells (l.take k) ++ icells [x])) (hgrow : ((wr.alloc c0).alloc c1).grownBy W3 (Value.slice la k lc).ownBlock) :
    RC W3 br e (.slice la k lc) nw ∧ ∃ la' lc', v' = .slice la' (k + 1) lc' ∧ RdR w e nw l br b o (k + 1) la' lc' (W3.setCell ⟨br, 1, none⟩ v') := by
  have hL : (l.take (k + 1)).length = k + 1 := by rw [List.length_take]; omega
  have e1 : icells (l.take k) ++ icells [x] = icells (l.take (k + 1)) := by rw [List.take_add_one, hx]; exact (icells_append _ _).symm
  rw [e1] at hown
  have ho : IOwn W3 (br + 1) v' (l.take (k + 1)) := by unfold IOwn; rw [hL]; exact hown
  obtain ⟨la', lc', hv⟩ := ho.shape
  rw [hL] at hv
  subst hv
  have hlt := fun j (hj : (Value.slice la k lc).ownBlock = some j) => h.own.lt (g := j) hj
  have hs : wr.heap.size ≤ W3.heap.size := by have := hgrow.size; simp at this; omega
  have hblk : ∀ j, j < wr.heap.size → j ≤ br → W3.heap[j]? = wr.heap[j]? := fun j hj hn => by
    rw [hgrow.block j (by simp; omega) (fun ee => by have := (hlt j (by first | exact ee | exact ee.symm)).1; omega)]
    rw [heap_alloc_old _ _ (by simp; omega), heap_alloc_old _ _ hj]
  have hne : ∀ j u, j ≠ br → (W3.setCell ⟨br, 1, none⟩ u).heap[j]? = W3.heap[j]? := fun j u hj => Below.heap_setCell _ _ _ _ hj
  have hge := h.ge
  have hgt := h.gt
  have hb3 : Below w.heap.size w W3 := by
    refine ((h.bl.alloc (Nat.le_trans h.bl.size (Nat.le_refl _)) c0).alloc (by have := h.bl.size; simp; omega) c1).grown hgrow (by have := h.bl.size; simp; omega) (fun j hj => ?_)
    have := (hlt j hj).1
    omega
  refine ⟨h.box.kept (hblk br (by omega) (Nat.le_refl _)), la', lc', rfl, ?_, ?_, ?_, ?_, hb3.setCell (p := ⟨br, 1, none⟩) (by simp; omega) _, hgt, by simp [World.setCell]; omega⟩
  · obtain ⟨⟨c0, c1, c2⟩, f0, f1, f2⟩ := h.box.kept (hblk br (by omega) (Nat.le_refl _))
    exact ⟨⟨by go_simp, by go_simp, by go_simp⟩, by go_simp, by go_simp, by go_simp⟩
  · rw [← hL] at ho ⊢
    exact ho.kept (fun j hj => hne j _ (by have := (ho.lt hj).1; omega))
  · exact h.zero.kept (by rw [hne _ _ (by omega), hblk _ (by omega) (by omega)])
  · exact RepA.to (fun j hj hlt => ⟨hj, by rw [hne _ _ (by omega), hblk _ hlt (by omega)]⟩) _ _ _ h.rep
set_option maxRecDepth 100000 in
set_option maxHeartbeats 8000000 in
theorem read_p (e nw : Int) (l : List Int) (w : World) (hm : mayR ⟨e, l, nw⟩ = true) (hlib : LibAt w) :
    Calls Tryz.prog 52 #[.string (txtR ⟨e, l, nw⟩)] w (RoOut (⟨e, l, nw⟩, true) w) := by
  obtain ⟨c, hall⟩ := txt_read hm
  have hts := (txt_size hm).2
  have hlen := (mayR_len hm).2.2
  have hwf := may_wf hm
  have HA := Lib.hid (fun W (hW : Below w.heap.size w W) => (All_p (txtR ⟨e, l, nw⟩) W (by omega) (hlib.below hW)))
  rw [hall] at HA
  unfold AllV at HA
  dsimp only at HA
  have hnl : (numsF (nums ⟨e, l, nw⟩)).len = l.length + 2 := by rw [numsF_len]; simp [nums]
  rw [hnl] at HA
  have HM := Lib.hid (fun v W (hv : IsAt W v l) => romay_p e nw v l W hv (by omega))
  rw [hm] at HM
  have HX := Lib.hid (fun v W (hW : Below w.heap.size w W) (hv : IsAt W v l) => text_p e nw v l W hv (by omega) (hlib.below hW) hwf)
  have HLN := Lib.hid hlen
  generalize txtR ⟨e, l, nw⟩ = TX at *
  obtain ⟨i0, hi, hz0, hz1, hz2⟩ := int_info
  have HB0 := Lib.hid (ro_below w 0 (.slice none 0 0) 0 24)
  have HZ0 := Lib.hid (RC.new w 0 none 0 0 0 24)
  have HSZ0 : Hid ((w.alloc (.cells #[.int .i64 0, .slice none 0 0, .int .i64 0] 24)).heap.size = w.heap.size + 1) := Lib.hid (by simp)
  clear hall hts hlen hwf hnl hlib hm
  go_enter Tryz.func52, Tryz.ntmps52
  go_wp2_with fail
  generalize (w.alloc (.cells #[.int .i64 0, .slice none 0 0, .int .i64 0] 24)) = W0 at *
  refine (HA.out W0 HB0.out).mono ?_
  rintro _ w1 ⟨hb1, ad, cap0, rfl, hg⟩
  rcases hg with hg | ⟨b, o, rfl, hg⟩
  · cases hg
  have HB1 := Lib.hid (HB0.out.trans (hb1.mono HB0.out.size))
  have HZ1 := Lib.hid (HZ0.out.below hb1)
  have HG1 : Hid (RepA w1 (fun j => w.heap.size + 1 ≤ j) b o (numsF (e :: nw :: l))) := Lib.hid (RepA.to (fun j hj _ => ⟨by have := HSZ0.out; omega, rfl⟩) _ _ _ hg)
  have HS1 := Lib.hid (show w.heap.size + 1 ≤ w1.heap.size by have := hb1.size; have := HSZ0.out; omega)
  obtain ⟨N, hN⟩ : ∃ N, l.length + 2 = N := ⟨_, rfl⟩
  rw [hN]
  have hN2 : decide ((N : Int) < 2) = false := decide_eq_false (by omega)
  have hN3 : (0 : Int) < (N : Int) := by omega
  have hN4 : (1 : Int) < (N : Int) := by omega
  have hN5 : ¬ N = 0 := by omega
  have HNN := Lib.hid hN
  obtain ⟨C, hC⟩ : ∃ C, N + cap0 = C := ⟨_, rfl⟩
  rw [hC]
  have HCC := Lib.hid hC
  clear hN hC hb1 hg HA HB0 HZ0 HSZ0
  go_wp2_with fail
  have HB2 := Lib.hid (HB1.out.alloc HB1.out.size (.cells #[.int .i64 3, .int .i64 0, .string ⟨#[]⟩, .slice (some ⟨b, o, none⟩) N C] 121))
  have HZ2 := Lib.hid (HZ1.out.alloc (.cells #[.int .i64 3, .int .i64 0, .string ⟨#[]⟩, .slice (some ⟨b, o, none⟩) N C] 121))
  have HG2 : Hid (RepA (w1.alloc (.cells #[.int .i64 3, .int .i64 0, .string ⟨#[]⟩, .slice (some ⟨b, o, none⟩) N C] 121)) (fun j => w.heap.size + 1 ≤ j ∧ j < w1.heap.size) b o (numsF (e :: nw :: l))) := Lib.hid (RepA.to (fun j hj hlt => ⟨⟨hj, hlt⟩, heap_alloc_old _ _ hlt⟩) _ _ _ HG1.out)
  have HV2 : Hid ((w1.alloc (.cells #[.int .i64 3, .int .i64 0, .string ⟨#[]⟩, .slice (some ⟨b, o, none⟩) N C] 121)).cell? ⟨w1.heap.size, 3, none⟩ = some (.slice (some ⟨b, o, none⟩) N C)) := Lib.hid (by go_simp)
  have HS2 : Hid ((w1.alloc (.cells #[.int .i64 3, .int .i64 0, .string ⟨#[]⟩, .slice (some ⟨b, o, none⟩) N C] 121)).heap.size = w1.heap.size + 1) := Lib.hid (by simp)
  generalize w1.alloc _ = W2 at *
  generalize w1.heap.size = B4 at *
  clear HB1 HZ1 HG1
  have HS : Hid (∀ W', Below W2.heap.size W2 W' → W'.cell? ⟨B4, 3, none⟩ = some (.slice (some ⟨b, o, none⟩) N C) ∧ W'.cell? ⟨b, o + 1, none⟩ = some (.int .i64 e) ∧ W'.cell? ⟨b, o + 4 + 1, none⟩ = some (.int .i64 nw)) := Lib.hid (fun W' hW => by
    obtain ⟨_, h1, _⟩ := nums_cells _ o 0 e HG2.out rfl
    obtain ⟨_, h2, _⟩ := nums_cells _ o 1 nw HG2.out rfl
    rw [Nat.zero_mul, Nat.add_zero] at h1
    rw [Nat.one_mul] at h2
    exact ⟨cell_kept hW (Nat.le_refl _) HV2.out, cell_kept hW (Nat.le_refl _) h1, cell_kept hW (Nat.le_refl _) h2⟩)
  have HX0 := Lib.hid (Below.refl W2.heap.size W2).drew
  have hS0 := HS.out _ HX0.out
  refine wp_region_held (S := fun W' => W'.cell? ⟨B4, 3, none⟩ = some (.slice (some ⟨b, o, none⟩) N C) ∧ W'.cell? ⟨b, o + 1, none⟩ = some (.int .i64 e) ∧ W'.cell? ⟨b, o + 4 + 1, none⟩ = some (.int .i64 nw)) (by kernel_rfl) ?_
  change wpAnyH _ _ _ _ _ _ _ _ (World.drew _)
  refine wpAnyH_take (i := 0) (v := Value.pointer (some ⟨B4, 3, none⟩)) rfl (by kernel_rfl) (by kernel_rfl) (by kernel_rfl) (fun _ _ _ h => h) (Or.inl ⟨by rfl, ?_⟩) hS0 ?_
  · intro w' ⟨s0, s1, s2⟩; go_simp
  refine wpAnyH_take (i := 1) (v := Value.slice (some ⟨b, o, none⟩) N C) rfl (by kernel_rfl) (by kernel_rfl) (by kernel_rfl) (fun _ _ _ h => h) (Or.inl ⟨by rfl, ?_⟩) hS0 ?_
  · intro w' ⟨s0, s1, s2⟩; go_simp
  refine wpAnyH_take (i := 2) (v := Value.pointer (some ⟨b, o, none⟩)) rfl (by kernel_rfl) (by kernel_rfl) (by kernel_rfl) (fun _ _ _ h => h) (Or.inl ⟨by rfl, ?_⟩) hS0 ?_
  · intro w' ⟨s0, s1, s2⟩; go_simp
  refine wpAnyH_take (i := 3) (v := Value.pointer (some ⟨b, o + 1, none⟩)) rfl (by kernel_rfl) (by kernel_rfl) (by kernel_rfl) (fun _ _ _ h => h) (Or.inl ⟨by rfl, ?_⟩) hS0 ?_
  · intro w' ⟨s0, s1, s2⟩; go_simp
  refine wpAnyH_take (i := 4) (v := Value.int .i64 e) rfl (by kernel_rfl) (by kernel_rfl) (by kernel_rfl) (fun _ _ _ h => h) (Or.inl ⟨by rfl, ?_⟩) hS0 ?_
  · intro w' ⟨s0, s1, s2⟩; go_simp
  refine wpAnyH_take (i := 5) (v := Value.pointer (some ⟨B4, 3, none⟩)) rfl (by kernel_rfl) (by kernel_rfl) (by kernel_rfl) (fun _ _ _ h => h) (Or.inl ⟨by rfl, ?_⟩) hS0 ?_
  · intro w' ⟨s0, s1, s2⟩; go_simp
  refine wpAnyH_take (i := 6) (v := Value.slice (some ⟨b, o, none⟩) N C) rfl (by kernel_rfl) (by kernel_rfl) (by kernel_rfl) (fun _ _ _ h => h) (Or.inl ⟨by rfl, ?_⟩) hS0 ?_
  · intro w' ⟨s0, s1, s2⟩; go_simp
  refine wpAnyH_take (i := 7) (v := Value.pointer (some ⟨b, o + 4, none⟩)) rfl (by kernel_rfl) (by kernel_rfl) (by kernel_rfl) (fun _ _ _ h => h) (Or.inl ⟨by rfl, ?_⟩) hS0 ?_
  · intro w' ⟨s0, s1, s2⟩; go_simp
  refine wpAnyH_take (i := 8) (v := Value.pointer (some ⟨b, o + 4 + 1, none⟩)) rfl (by kernel_rfl) (by kernel_rfl) (by kernel_rfl) (fun _ _ _ h => h) (Or.inl ⟨by rfl, ?_⟩) hS0 ?_
  · intro w' ⟨s0, s1, s2⟩; go_simp
  refine wpAnyH_take (i := 9) (v := Value.int .i64 nw) rfl (by kernel_rfl) (by kernel_rfl) (by kernel_rfl) (fun _ _ _ h => h) (Or.inl ⟨by rfl, ?_⟩) hS0 ?_
  · intro w' ⟨s0, s1, s2⟩; go_simp
  refine wpAnyH_take (i := 10) (v := Value.agg #[.int .i64 e, .slice none 0 0, .int .i64 nw]) rfl (by kernel_rfl) (by kernel_rfl) (by kernel_rfl) (fun _ _ _ h => h) (Or.inl ⟨by rfl, ?_⟩) hS0 ?_
  · intro w' ⟨s0, s1, s2⟩; go_simp
  simp only [List.getElem_toArray, List.getElem_cons_succ, List.getElem_cons_zero, Act.put, List.setIfInBounds_toArray, List.set_cons_zero, List.set_cons_succ]
  clear hS0
  refine wpAnyH_ready (rs := [11]) (by kernel_rfl) (by simp) ?_
  refine AllReadyH.cons rfl (fun K hK => ?_) AllReadyH.nil
  simp only [List.getElem_toArray, List.getElem_cons_succ, List.getElem_cons_zero]
  go_simp
  have hx := HX0.out.alloc HX0.out.size (.cells #[.int .i64 0, .slice none 0 0, .int .i64 0] 24)
  refine hK.out _ _ (HS.out _ ⟨hx.os, hx.tape, hx.output, hx.size, hx.block⟩) (fun _ => ?_)
  clear hK hx
  refine wpAnyH_ready (rs := [12]) (by kernel_rfl) (by simp) ?_
  refine AllReadyH.cons rfl (fun K hK => ?_) AllReadyH.nil
  simp only [List.getElem_toArray, List.getElem_cons_succ, List.getElem_cons_zero]
  go_simp
  have hx := HX0.out.alloc HX0.out.size (.cells #[.int .i64 e, .slice none 0 0, .int .i64 nw] 24)
  have hx9 : Below W2.heap.size W2 (W2.alloc (.cells #[.int .i64 e, .slice none 0 0, .int .i64 nw] 24)).drew := ⟨hx.os, hx.tape, hx.output, hx.size, hx.block⟩
  refine hK.out _ _ (HS.out _ hx9) (fun _ => ?_)
  clear hK hx
  refine wpAnyH_done (by kernel_rfl) ?_ _
  have HR0 : Hid (RdR w e nw l W2.heap.size b o 0 none 0 (W2.alloc (.cells #[.int .i64 e, .slice none 0 0, .int .i64 nw] 24)).drew) := Lib.hid ⟨(RC.new W2 e none 0 0 nw 24).kept rfl, IOwn.nil _ _, HZ2.out.below hx9, RepA.to (fun j hj hlt => ⟨⟨hj.1, hlt⟩, hx9.block j hlt⟩) _ _ _ HG2.out, (HB2.out.alloc HB2.out.size (.cells #[.int .i64 e, .slice none 0 0, .int .i64 nw] 24)).drew, by have := HS2.out; have := HS1.out; omega, by simp⟩
  have s0 := (HS.out _ hx9).1
  clear hx9 HB2 HZ2 HG2 HV2 HS HX0
  generalize (W2.alloc (.cells #[.int .i64 e, .slice none 0 0, .int .i64 nw] 24)).drew = W3 at *
  generalize W2.heap.size = BR at *
  have h2N : (2 : Int) ≤ (N : Int) := by have := HNN.out; have := HLN.out; omega
  have hC2 : ¬ C = 2 := by have := HCC.out; have := HNN.out; have := HLN.out; omega
  go_wp2_with fail
  have e9 : N - 2 = l.length := by have := HNN.out; omega
  rw [e9]
  clear e9 h2N hC2 hN2 hN3 hN4 hN5 HNN HCC s0 HS2 HS1
  go_loopw [8, 38] (fun v8 iv wr => ∃ (k : Nat) (la : Option Addr) (lc : Nat), iv = .int .i64 k ∧ k ≤ l.length ∧ Hid (RdR w e nw l BR b o k la lc wr)) (fun _ iv _ => l.length - (intOf iv).toNat)
  case atStart => exact ⟨0, none, 0, rfl, Nat.zero_le _, HR0⟩
  case round =>
    obtain ⟨k, la, lc, rfl, hk, HR⟩ := hrel
    by_cases hlt : k < l.length
    · have hltz : (k : Int) < (l.length : Int) := by omega
      obtain ⟨x, hx⟩ : ∃ x, l[k]? = some x := ⟨_, List.getElem?_eq_getElem hlt⟩
      obtain ⟨d0, d1, d2, ad2, cap2, d3⟩ := nums_cells _ o (k + 2) x HR.out.rep (by simpa using hx)
      rw [show o + (k + 2) * 4 = o + 8 + k * 4 by omega] at d0 d1 d2 d3
      obtain ⟨⟨b0, b1, b2⟩, g0, g1, g2⟩ := HR.out.box
      have HXX := Lib.hid hx
      have HLT := Lib.hid hlt
      have hz1' := HR.out.ge
      have hBR : BR < wr.heap.size := by omega
      have hBR1 : BR < wr.heap.size + 1 := by omega
      have hby : Below wr.heap.size wr ((wr.alloc (.cells #[.int .i64 1, .int .i64 x, .string ⟨#[]⟩, .slice ad2 0 cap2] 121)).alloc (.cells #[.int .i64 x] 3)) := ((Below.refl _ _).alloc (Nat.le_refl _) _).alloc (by simp) _
      have HOW : Hid (((wr.alloc (.cells #[.int .i64 1, .int .i64 x, .string ⟨#[]⟩, .slice ad2 0 cap2] 121)).alloc (.cells #[.int .i64 x] 3)).ownsRow (BR + 1) 3 1 (.slice la k lc) k (icells (l.take k))) := Lib.hid (by
        have h1 := HR.out.own.below hby
        unfold IOwn at h1
        rw [List.length_take, Nat.min_eq_left hk] at h1
        exact h1)
      have HGE : Hid (BR + 1 ≤ ((wr.alloc (.cells #[.int .i64 1, .int .i64 x, .string ⟨#[]⟩, .slice ad2 0 cap2] 121)).alloc (.cells #[.int .i64 x] 3)).heap.size) := Lib.hid (by simp; omega)
      have HNW : Hid (∀ j u, (icells [x])[j]? = some u → ((wr.alloc (.cells #[.int .i64 1, .int .i64 x, .string ⟨#[]⟩, .slice ad2 0 cap2] 121)).alloc (.cells #[.int .i64 x] 3)).cell? ((⟨wr.heap.size + 1, 0, none⟩ : Addr).add j) = some u) := Lib.hid (by
        have h1 := World.news_of_block (w := ((wr.alloc (.cells #[.int .i64 1, .int .i64 x, .string ⟨#[]⟩, .slice ad2 0 cap2] 121)).alloc (.cells #[.int .i64 x] 3))) (B := wr.heap.size + 1) (cs := #[.int .i64 x]) (t := 3) (fr := (0, 0)) (by
          have := heap_alloc_new (wr.alloc (.cells #[.int .i64 1, .int .i64 x, .string ⟨#[]⟩, .slice ad2 0 cap2] 121)) (.cells #[.int .i64 x] 3)
          simpa using this)
        exact h1)
      clear hx hz1' hby
      go_wp2_with (at_builtin; refine wpList_append_own_at _ rfl (.tmp 43) (.tmp 46) 22 rfl (BR + 1) 3 i0 _ 1 8 Tryz.underlying22 hi hz0 hz1 hz2 rfl (by decide) (.slice la k lc) k (icells (l.take k)) rfl HOW.out ⟨wr.heap.size + 1, 0, none⟩ 1 1 (icells [x]) rfl rfl HNW.out (icells_one [x]) (by unfold maxLen; have := HLN.out; omega) (by have := HLN.out; omega) HGE.out ?_)
      intro v' w3 hown3 hgrow3 _ hloc3
      obtain ⟨⟨⟨e0, e1, e2⟩, z0, z1, z2⟩, la3, lc3, rfl, hE⟩ := HR.out.step HXX.out HLT.out hown3 hgrow3
      have HE := Lib.hid hE
      clear hown3 hgrow3 hloc3 hE d0 d1 d2 d3 b0 b1 b2 g0 g1 g2 HOW HGE HNW
      have hln5 : l.length ≤ 5 := HLN.out.2
      have hk5 : (k : Int) ≤ 5 := by omega
      go_wp2_with fail
      go_roundw
      case rel => exact ⟨k + 1, la3, lc3, by go_num, by omega, HE⟩
      case measure => simp [intOf]; omega
    · have hltz : ¬ (k : Int) < (l.length : Int) := by omega
      obtain rfl : k = l.length := by omega
      obtain ⟨⟨b0, b1, b2⟩, g0, g1, g2⟩ := HR.out.box
      have hown := HR.out.own
      rw [List.take_length] at hown
      have HO := Lib.hid (hown.mono (show w.heap.size ≤ BR + 1 by have := HR.out.gt; omega))
      have HBL := Lib.hid HR.out.bl
      have HBX := Lib.hid HR.out.box
      have HBZ := Lib.hid HR.out.zero
      have HGT := Lib.hid HR.out.gt
      have HOB := Lib.hid (fun j hj => (hown.lt (g := j) hj).1)
      clear hown HR
      go_wp2_with fail
      refine (HM.out _ wr HO.out.at).mono ?_
      rintro _ w4 ⟨rfl, hb4⟩
      have HB4 := Lib.hid (HBL.out.trans (hb4.mono HBL.out.size))
      replace HO := Lib.hid (HO.out.below hb4)
      replace HBX := Lib.hid (HBX.out.below hb4)
      replace HBZ := Lib.hid (HBZ.out.below hb4)
      clear hb4 b0 b1 b2 g0 g1 g2 HBL
      obtain ⟨⟨b0, b1, b2⟩, g0, g1, g2⟩ := HBX.out
      go_wp2_with fail
      refine (HX.out _ w4 HB4.out HO.out.at).mono ?_
      rintro _ w5 ⟨rfl, hb5⟩
      have HB5 := Lib.hid (HB4.out.trans (hb5.mono HB4.out.size))
      replace HO := Lib.hid (HO.out.below hb5)
      replace HBX := Lib.hid (HBX.out.below hb5)
      replace HBZ := Lib.hid (HBZ.out.below hb5)
      clear hb5 b0 b1 b2 g0 g1 g2
      obtain ⟨⟨b0, b1, b2⟩, g0, g1, g2⟩ := HBX.out
      obtain ⟨⟨y0, y1, y2⟩, f0, f1, f2⟩ := HBZ.out
      have hne : ¬ w.heap.size = BR := by have := HGT.out; omega
      have hne' : ¬ BR = w.heap.size := by have := HGT.out; omega
      go_wp2_with fail
      obtain ⟨⟨t0, t1, t2⟩, _⟩ := rc_put HBZ.out e nw la l.length lc
      refine bodyPost_ret (v := .tuple #[.agg #[.int .i64 e, .slice la l.length lc, .int .i64 nw], .bool true]) (by simp [results, Tryz.results52, go_sem, t0, t1, t2]) rfl ⟨la, lc, rfl, HO.out.kept (fun j hj => ?_), ((HB5.out.setCell (p := ⟨w.heap.size, 0, none⟩) (Nat.le_refl _) _).setCell (p := ⟨w.heap.size, 1, none⟩) (Nat.le_refl _) _).setCell (p := ⟨w.heap.size, 2, none⟩) (Nat.le_refl _) _⟩
      have h1 := HOB.out j hj
      have h2 := HGT.out
      have h3 : j ≠ w.heap.size := by omega
      rw [Below.heap_setCell _ _ _ _ h3, Below.heap_setCell _ _ _ _ h3, Below.heap_setCell _ _ _ _ h3]
end Go.Proofs.YtaacdggjkfmehaaGreatDoor
