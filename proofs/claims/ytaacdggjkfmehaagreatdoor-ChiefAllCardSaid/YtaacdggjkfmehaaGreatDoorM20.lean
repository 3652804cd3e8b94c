/-
  Contracts of the program, and what they rest on.
-/
import Derived.Laws.Rows
import Derived.Test.YtaacdggjkfmehaaGreatDoorM19
import Derived.Test.YtaacdggjkfmehaaGreatDoorM13
namespace Go.Proofs.YtaacdggjkfmehaaGreatDoor
open Go.RowKit Go.Maps Go.Proofs.MapD Go.Proofs.Chest
theorem nums_cells {w : World} {A : Nat → Prop} {b : Nat} : ∀ (ns : List Int) (o k : Nat) (x : Int), RepA w A b o (numsF ns) → ns[k]? = some x →
    w.cell? ⟨b, o + k * 4, none⟩ = some (.int .i64 1) ∧ w.cell? ⟨b, o + k * 4 + 1, none⟩ = some (.int .i64 x) ∧ w.cell? ⟨b, o + k * 4 + 2, none⟩ = some (.string ⟨#[]⟩) ∧ ∃ ad cap, w.cell? ⟨b, o + k * 4 + 3, none⟩ = some (.slice ad 0 cap)
  | n :: l, o, 0, x, h, hx => by
    obtain ⟨_, h0, h1, h2, ⟨ad, cap, h3, _⟩, _⟩ := h
    obtain rfl : n = x := by simpa using hx
    simp only [Nat.zero_mul, Nat.add_zero]
    exact ⟨h0, h1, h2, ad, cap, h3⟩
  | n :: l, o, k + 1, x, h, hx => by
    obtain ⟨_, _, _, _, _, h5⟩ := h
    have := nums_cells l (o + 4) k x h5 (by simpa using hx)
    rw [show o + (k + 1) * 4 = o + 4 + k * 4 by omega]
    exact this
  | [], _, _, _, _, hx => by simp at hx
structure RdR (w : World) (e nw : Int) (l : List Int) (br b o : Nat) (k : Nat) (la : Option Addr) (lc : Nat) (wr : World) : Prop where
  box : RC wr br e (.slice la k lc) nw
  own : IOwn wr (br + 1) (.slice la k lc) (l.take k)
  zero : RC wr w.heap.size 0 (.slice none 0 0) 0
  rep : RepA wr (fun j => w.heap.size + 1 ≤ j ∧ j < br) b o (numsF (e :: nw :: l))
  bl : Below w.heap.size w wr
  gt : w.heap.size < br
  ge : br + 1 ≤ wr.heap.size
theorem RdR.step {w wr W3 : World} {e nw : Int} {l : List Int} {br b o k : Nat} {la : Option Addr} {lc : Nat} {x : Int} {v' : Value} (h : RdR w e nw l br b o k la lc wr) (hx : l[k]? = some x) (hk : k < l.length)
    {c0 c1 : Obj} (hown : W3.ownsRow (br + 1) 3 1 v' (k + 1) (icells (l.take k) ++ icells [x])) (hgrow : ((wr.alloc c0).alloc c1).grownBy W3 (Value.slice la k lc).ownBlock) :
    RC W3 br e (.slice la k lc) nw ∧ ∃ la' lc', v' = .slice la' (k + 1) lc' ∧ RdR w e nw l br b o (k + 1) la' lc' (W3.setCell ⟨br, 1, none⟩ v') := by
  have hL : (l.take (k + 1)).length = k + 1 := by rw [List.length_take]; omega
  have e1 : icells (l.take k) ++ icells [x] = icells (l.take (k + 1)) := by rw [List.take_add_one, hx]; exact (icells_append _ _).symm
  rw [e1] at hown
  have ho : IOwn W3 (br + 1) v' (l.take (k + 1)) := by unfold IOwn; rw [hL]; exact hown
  obtain ⟨la', lc', hv⟩ := ho.shape
  rw [hL] at hv
  subst hv
  have hlt := fun j (hj : (Value.slice la k lc).ownBlock = some j) => h.own.lt (g := j) hj
  have hs : wr.heap.size ≤ W3.heap.size := by have := hgrow.size; simp at this; omega
  have hblk : ∀ j, j < wr.heap.size → j ≤ br → W3.heap[j]? = wr.heap[j]? := fun j hj hn => by
    rw [hgrow.block j (by simp; omega) (fun ee => by have := (hlt j (by first | exact ee | exact ee.symm)).1; omega)]
    rw [heap_alloc_old _ _ (by simp; omega), heap_alloc_old _ _ hj]
  have hne : ∀ j u, j ≠ br → (W3.setCell ⟨br, 1, none⟩ u).heap[j]? = W3.heap[j]? := fun j u hj => Below.heap_setCell _ _ _ _ hj
  have hge := h.ge
  have hgt := h.gt
  have hb3 : Below w.heap.size w W3 := by
    refine ((h.bl.alloc (Nat.le_trans h.bl.size (Nat.le_refl _)) c0).alloc (by have := h.bl.size; simp; omega) c1).grown hgrow (by have := h.bl.size; simp; omega) (fun j hj => ?_)
    have := (hlt j hj).1
    omega
  refine ⟨h.box.kept (hblk br (by omega) (Nat.le_refl _)), la', lc', rfl, ?_, ?_, ?_, ?_, hb3.setCell (p := ⟨br, 1, none⟩) (by simp; omega) _, hgt, by simp [World.setCell]; omega⟩
  · obtain ⟨⟨c0, c1, c2⟩, f0, f1, f2⟩ := h.box.kept (hblk br (by omega) (Nat.le_refl _))
    exact ⟨⟨by go_simp, by go_simp, by go_simp⟩, by go_simp, by go_simp, by go_simp⟩
  · rw [← hL] at ho ⊢
    exact ho.kept (fun j hj => hne j _ (by have := (ho.lt hj).1; omega))
  · exact h.zero.kept (by rw [hne _ _ (by omega), hblk _ (by omega) (by omega)])
  · exact RepA.to (fun j hj hlt => ⟨hj, by rw [hne _ _ (by omega), hblk _ hlt (by omega)]⟩) _ _ _ h.rep
set_option maxRecDepth 100000 in
set_option maxHeartbeats 8000000 in
theorem read_p (e nw : Int) (l : List Int) (w : World) (hm : mayR ⟨e, l, nw⟩ = true) (hlib : LibAt w) :
    Calls Tryz.prog 52 #[.string (txtR ⟨e, l, nw⟩)] w (RoOut (⟨e, l, nw⟩, true) w) := by
  obtain ⟨c, hall⟩ := txt_read hm
  have hts := (txt_size hm).2
  have hlen := (mayR_len hm).2.2
  have hwf := may_wf hm
  have HA := Lib.hid (fun W (hW : Below w.heap.size w W) => (All_p (txtR ⟨e, l, nw⟩) W (by omega) (hlib.below hW)))
  rw [hall] at HA
  unfold AllV at HA
  dsimp only at HA
  have hnl : (numsF (nums ⟨e, l, nw⟩)).len = l.length + 2 := by rw [numsF_len]; simp [nums]
  rw [hnl] at HA
  have HM := Lib.hid (fun v W (hv : IsAt W v l) => romay_p e nw v l W hv (by omega))
  rw [hm] at HM
  have HX := Lib.hid (fun v W (hW : Below w.heap.size w W) (hv : IsAt W v l) => text_p e nw v l W hv (by omega) (hlib.below hW) hwf)
  have HLN := Lib.hid hlen
  generalize txtR ⟨e, l, nw⟩ = TX at *
  obtain ⟨i0, hi, hz0, hz1, hz2⟩ := int_info
  have HB0 := Lib.hid (ro_below w 0 (.slice none 0 0) 0 24)
  have HZ0 := Lib.hid (RC.new w 0 none 0 0 0 24)
  have HSZ0 : Hid ((w.alloc (.cells #[.int .i64 0, .slice none 0 0, .int .i64 0] 24)).heap.size = w.heap.size + 1) := Lib.hid (by simp)
  clear hall hts hlen hwf hnl hlib hm
  go_enter Tryz.func52, Tryz.ntmps52
  go_wp2_with fail
  generalize (w.alloc (.cells #[.int .i64 0, .slice none 0 0, .int .i64 0] 24)) = W0 at *
  refine (HA.out W0 HB0.out).mono ?_
  rintro _ w1 ⟨hb1, ad, cap0, rfl, hg⟩
  rcases hg with hg | ⟨b, o, rfl, hg⟩
  · cases hg
  have HB1 := Lib.hid (HB0.out.trans (hb1.mono HB0.out.size))
  have HZ1 := Lib.hid (HZ0.out.below hb1)
  have HG1 : Hid (RepA w1 (fun j => w.heap.size + 1 ≤ j) b o (numsF (e :: nw :: l))) := Lib.hid (RepA.to (fun j hj _ => ⟨by have := HSZ0.out; omega, rfl⟩) _ _ _ hg)
  have HS1 := Lib.hid (show w.heap.size + 1 ≤ w1.heap.size by have := hb1.size; have := HSZ0.out; omega)
  obtain ⟨N, hN⟩ : ∃ N, l.length + 2 = N := ⟨_, rfl⟩
  rw [hN]
  have hN2 : decide ((N : Int) < 2) = false := decide_eq_false (by omega)
  have hN3 : (0 : Int) < (N : Int) := by omega
  have hN4 : (1 : Int) < (N : Int) := by omega
  have hN5 : ¬ N = 0 := by omega
  have HNN := Lib.hid hN
  obtain ⟨C, hC⟩ : ∃ C, N + cap0 = C := ⟨_, rfl⟩
  rw [hC]
  have HCC := Lib.hid hC
  clear hN hC hb1 hg HA HB0 HZ0 HSZ0
  go_wp2_with fail
  have HB2 := Lib.hid (HB1.out.alloc HB1.out.size (.cells #[.int .i64 3, .int .i64 0, .string ⟨#[]⟩, .slice (some ⟨b, o, none⟩) N C] 121))
  have HZ2 := Lib.hid (HZ1.out.alloc (.cells #[.int .i64 3, .int .i64 0, .string ⟨#[]⟩, .slice (some ⟨b, o, none⟩) N C] 121))
  have HG2 : Hid (RepA (w1.alloc (.cells #[.int .i64 3, .int .i64 0, .string ⟨#[]⟩, .slice (some ⟨b, o, none⟩) N C] 121)) (fun j => w.heap.size + 1 ≤ j ∧ j < w1.heap.size) b o (numsF (e :: nw :: l))) := Lib.hid (RepA.to (fun j hj hlt => ⟨⟨hj, hlt⟩, heap_alloc_old _ _ hlt⟩) _ _ _ HG1.out)
  have HV2 : Hid ((w1.alloc (.cells #[.int .i64 3, .int .i64 0, .string ⟨#[]⟩, .slice (some ⟨b, o, none⟩) N C] 121)).cell? ⟨w1.heap.size, 3, none⟩ = some (.slice (some ⟨b, o, none⟩) N C)) := Lib.hid (by go_simp)
  have HS2 : Hid ((w1.alloc (.cells #[.int .i64 3, .int .i64 0, .string ⟨#[]⟩, .slice (some ⟨b, o, none⟩) N C] 121)).heap.size = w1.heap.size + 1) := Lib.hid (by simp)
  generalize w1.alloc _ = W2 at *
  generalize w1.heap.size = B4 at *
  clear HB1 HZ1 HG1
  have HS : Hid (∀ W', Below W2.heap.size W2 W' → W'.cell? ⟨B4, 3, none⟩ = some (.slice (some ⟨b, o, none⟩) N C) ∧ W'.cell? ⟨b, o + 1, none⟩ = some (.int .i64 e) ∧ W'.cell? ⟨b, o + 4 + 1, none⟩ = some (.int .i64 nw)) := Lib.hid (fun W' hW => by
    obtain ⟨_, h1, _⟩ := nums_cells _ o 0 e HG2.out rfl
    obtain ⟨_, h2, _⟩ := nums_cells _ o 1 nw HG2.out rfl
    rw [Nat.zero_mul, Nat.add_zero] at h1
    rw [Nat.one_mul] at h2
    exact ⟨cell_kept hW (Nat.le_refl _) HV2.out, cell_kept hW (Nat.le_refl _) h1, cell_kept hW (Nat.le_refl _) h2⟩)
  have HX0 := Lib.hid (Below.refl W2.heap.size W2).drew
  have hS0 := HS.out _ HX0.out
  refine wp_region_held (S := fun W' => W'.cell? ⟨B4, 3, none⟩ = some (.slice (some ⟨b, o, none⟩) N C) ∧ W'.cell? ⟨b, o + 1, none⟩ = some (.int .i64 e) ∧ W'.cell? ⟨b, o + 4 + 1, none⟩ = some (.int .i64 nw)) (by kernel_rfl) ?_
  change wpAnyH _ _ _ _ _ _ _ _ (World.drew _)
  refine wpAnyH_take (i := 0) (v := Value.pointer (some ⟨B4, 3, none⟩)) rfl (by kernel_rfl) (by kernel_rfl) (by kernel_rfl) (fun _ _ _ h => h) (Or.inl ⟨by rfl, ?_⟩) hS0 ?_
  · intro w' ⟨s0, s1, s2⟩; go_simp
  refine wpAnyH_take (i := 1) (v := Value.slice (some ⟨b, o, none⟩) N C) rfl (by kernel_rfl) (by kernel_rfl) (by kernel_rfl) (fun _ _ _ h => h) (Or.inl ⟨by rfl, ?_⟩) hS0 ?_
  · intro w' ⟨s0, s1, s2⟩; go_simp
  refine wpAnyH_take (i := 2) (v := Value.pointer (some ⟨b, o, none⟩)) rfl (by kernel_rfl) (by kernel_rfl) (by kernel_rfl) (fun _ _ _ h => h) (Or.inl ⟨by rfl, ?_⟩) hS0 ?_
  · intro w' ⟨s0, s1, s2⟩; go_simp
  refine wpAnyH_take (i := 3) (v := Value.pointer (some ⟨b, o + 1, none⟩)) rfl (by kernel_rfl) (by kernel_rfl) (by kernel_rfl) (fun _ _ _ h => h) (Or.inl ⟨by rfl, ?_⟩) hS0 ?_
  · intro w' ⟨s0, s1, s2⟩; go_simp
  refine wpAnyH_take (i := 4) (v := Value.int .i64 e) rfl (by kernel_rfl) (by kernel_rfl) (by kernel_rfl) (fun _ _ _ h => h) (Or.inl ⟨by rfl, ?_⟩) hS0 ?_
  · intro w' ⟨s0, s1, s2⟩; go_simp
  refine wpAnyH_take (i := 5) (v := Value.pointer (some ⟨B4, 3, none⟩)) rfl (by kernel_rfl) (by kernel_rfl) (by kernel_rfl) (fun _ _ _ h => h) (Or.inl ⟨by rfl, ?_⟩) hS0 ?_
  · intro w' ⟨s0, s1, s2⟩; go_simp
  refine wpAnyH_take (i := 6) (v := Value.slice (some ⟨b, o, none⟩) N C) rfl (by kernel_rfl) (by kernel_rfl) (by kernel_rfl) (fun _ _ _ h => h) (Or.inl ⟨by rfl, ?_⟩) hS0 ?_
  · intro w' ⟨s0, s1, s2⟩; go_simp
  refine wpAnyH_take (i := 7) (v := Value.pointer (some ⟨b, o + 4, none⟩)) rfl (by kernel_rfl) (by kernel_rfl) (by kernel_rfl) (fun _ _ _ h => h) (Or.inl ⟨by rfl, ?_⟩) hS0 ?_
  · intro w' ⟨s0, s1, s2⟩; go_simp
  refine wpAnyH_take (i := 8) (v := Value.pointer (some ⟨b, o + 4 + 1, none⟩)) rfl (by kernel_rfl) (by kernel_rfl) (by kernel_rfl) (fun _ _ _ h => h) (Or.inl ⟨by rfl, ?_⟩) hS0 ?_
  · intro w' ⟨s0, s1, s2⟩; go_simp
  refine wpAnyH_take (i := 9) (v := Value.int .i64 nw) rfl (by kernel_rfl) (by kernel_rfl) (by kernel_rfl) (fun _ _ _ h => h) (Or.inl ⟨by rfl, ?_⟩) hS0 ?_
  · intro w' ⟨s0, s1, s2⟩; go_simp
  refine wpAnyH_take (i := 10) (v := Value.agg #[.int .i64 e, .slice none 0 0, .int .i64 nw]) rfl (by kernel_rfl) (by kernel_rfl) (by kernel_rfl) (fun _ _ _ h => h) (Or.inl ⟨by rfl, ?_⟩) hS0 ?_
  · intro w' ⟨s0, s1, s2⟩; go_simp
  simp only [List.getElem_toArray, List.getElem_cons_succ, List.getElem_cons_zero, Act.put, List.setIfInBounds_toArray, List.set_cons_zero, List.set_cons_succ]
  clear hS0
  refine wpAnyH_ready (rs := [11]) (by kernel_rfl) (by simp) ?_
  refine AllReadyH.cons rfl (fun K hK => ?_) AllReadyH.nil
  simp only [List.getElem_toArray, List.getElem_cons_succ, List.getElem_cons_zero]
  go_simp
  have hx := HX0.out.alloc HX0.out.size (.cells #[.int .i64 0, .slice none 0 0, .int .i64 0] 24)
  refine hK.out _ _ (HS.out _ ⟨hx.os, hx.tape, hx.output, hx.size, hx.block⟩) (fun _ => ?_)
  clear hK hx
  refine wpAnyH_ready (rs := [12]) (by kernel_rfl) (by simp) ?_
  refine AllReadyH.cons rfl (fun K hK => ?_) AllReadyH.nil
  simp only [List.getElem_toArray, List.getElem_cons_succ, List.getElem_cons_zero]
  go_simp
  have hx := HX0.out.alloc HX0.out.size (.cells #[.int .i64 e, .slice none 0 0, .int .i64 nw] 24)
  have hx9 : Below W2.heap.size W2 (W2.alloc (.cells #[.int .i64 e, .slice none 0 0, .int .i64 nw] 24)).drew := ⟨hx.os, hx.tape, hx.output, hx.size, hx.block⟩
  refine hK.out _ _ (HS.out _ hx9) (fun _ => ?_)
  clear hK hx
  refine wpAnyH_done (by kernel_rfl) ?_ _
  have HR0 : Hid (RdR w e nw l W2.heap.size b o 0 none 0 (W2.alloc (.cells #[.int .i64 e, .slice none 0 0, .int .i64 nw] 24)).drew) := Lib.hid ⟨(RC.new W2 e none 0 0 nw 24).kept rfl, IOwn.nil _ _, HZ2.out.below hx9, RepA.to (fun j hj hlt => ⟨⟨hj.1, hlt⟩, hx9.block j hlt⟩) _ _ _ HG2.out, (HB2.out.alloc HB2.out.size (.cells #[.int .i64 e, .slice none 0 0, .int .i64 nw] 24)).drew, by have := HS2.out; have := HS1.out; omega, by simp⟩
  have s0 := (HS.out _ hx9).1
  clear hx9 HB2 HZ2 HG2 HV2 HS HX0
  generalize (W2.alloc (.cells #[.int .i64 e, .slice none 0 0, .int .i64 nw] 24)).drew = W3 at *
  generalize W2.heap.size = BR at *
  have h2N : (2 : Int) ≤ (N : Int) := by have := HNN.out; have := HLN.out; omega
  have hC2 : ¬ C = 2 := by have := HCC.out; have := HNN.out; have := HLN.out; omega
  go_wp2_with fail
  have e9 : N - 2 = l.length := by have := HNN.out; omega
  rw [e9]
  clear e9 h2N hC2 hN2 hN3 hN4 hN5 HNN HCC s0 HS2 HS1
  go_loopw [8, 38] (fun v8 iv wr => ∃ (k : Nat) (la : Option Addr) (lc : Nat), iv = .int .i64 k ∧ k ≤ l.length ∧ Hid (RdR w e nw l BR b o k la lc wr)) (fun _ iv _ => l.length - (intOf iv).toNat)
  case atStart => exact ⟨0, none, 0, rfl, Nat.zero_le _, HR0⟩
  case round =>
    obtain ⟨k, la, lc, rfl, hk, HR⟩ := hrel
    by_cases hlt : k < l.length
    · have hltz : (k : Int) < (l.length : Int) := by omega
      obtain ⟨x, hx⟩ : ∃ x, l[k]? = some x := ⟨_, List.getElem?_eq_getElem hlt⟩
      obtain ⟨d0, d1, d2, ad2, cap2, d3⟩ := nums_cells _ o (k + 2) x HR.out.rep (by simpa using hx)
      rw [show o + (k + 2) * 4 = o + 8 + k * 4 by omega] at d0 d1 d2 d3
      obtain ⟨⟨b0, b1, b2⟩, g0, g1, g2⟩ := HR.out.box
      have HXX := Lib.hid hx
      have HLT := Lib.hid hlt
      have hz1' := HR.out.ge
      have hBR : BR < wr.heap.size := by omega
      have hBR1 : BR < wr.heap.size + 1 := by omega
      have hby : Below wr.heap.size wr ((wr.alloc (.cells #[.int .i64 1, .int .i64 x, .string ⟨#[]⟩, .slice ad2 0 cap2] 121)).alloc (.cells #[.int .i64 x] 3)) := ((Below.refl _ _).alloc (Nat.le_refl _) _).alloc (by simp) _
      have HOW : Hid (((wr.alloc (.cells #[.int .i64 1, .int .i64 x, .string ⟨#[]⟩, .slice ad2 0 cap2] 121)).alloc (.cells #[.int .i64 x] 3)).ownsRow (BR + 1) 3 1 (.slice la k lc) k (icells (l.take k))) := Lib.hid (by
        have h1 := HR.out.own.below hby
        unfold IOwn at h1
        rw [List.length_take, Nat.min_eq_left hk] at h1
        exact h1)
      have HGE : Hid (BR + 1 ≤ ((wr.alloc (.cells #[.int .i64 1, .int .i64 x, .string ⟨#[]⟩, .slice ad2 0 cap2] 121)).alloc (.cells #[.int .i64 x] 3)).heap.size) := Lib.hid (by simp; omega)
      have HNW : Hid (∀ j u, (icells [x])[j]? = some u → ((wr.alloc (.cells #[.int .i64 1, .int .i64 x, .string ⟨#[]⟩, .slice ad2 0 cap2] 121)).alloc (.cells #[.int .i64 x] 3)).cell? ((⟨wr.heap.size + 1, 0, none⟩ : Addr).add j) = some u) := Lib.hid (by
        have h1 := World.news_of_block (w := ((wr.alloc (.cells #[.int .i64 1, .int .i64 x, .string ⟨#[]⟩, .slice ad2 0 cap2] 121)).alloc (.cells #[.int .i64 x] 3))) (B := wr.heap.size + 1) (cs := #[.int .i64 x]) (t := 3) (fr := (0, 0)) (by
          have := heap_alloc_new (wr.alloc (.cells #[.int .i64 1, .int .i64 x, .string ⟨#[]⟩, .slice ad2 0 cap2] 121)) (.cells #[.int .i64 x] 3)
          simpa using this)
        exact h1)
      clear hx hz1' hby
      go_wp2_with (at_builtin; refine wpList_append_own_at _ rfl (.tmp 43) (.tmp 46) 22 rfl (BR + 1) 3 i0 _ 1 8 Tryz.underlying22 hi hz0 hz1 hz2 rfl (by decide) (.slice la k lc) k (icells (l.take k)) rfl HOW.out ⟨wr.heap.size + 1, 0, none⟩ 1 1 (icells [x]) rfl rfl HNW.out (icells_one [x]) (by unfold maxLen; have := HLN.out; omega) (by have := HLN.out; omega) HGE.out ?_)
      intro v' w3 hown3 hgrow3 _ hloc3
      obtain ⟨⟨⟨e0, e1, e2⟩, z0, z1, z2⟩, la3, lc3, rfl, hE⟩ := HR.out.step HXX.out HLT.out hown3 hgrow3
      have HE := Lib.hid hE
      clear hown3 hgrow3 hloc3 hE d0 d1 d2 d3 b0 b1 b2 g0 g1 g2 HOW HGE HNW
      have hln5 : l.length ≤ 5 := HLN.out.2
      have hk5 : (k : Int) ≤ 5 := by omega
      go_wp2_with fail
      go_roundw
      case rel => exact ⟨k + 1, la3, lc3, by go_num, by omega, HE⟩
      case measure => simp [intOf]; omega
    · have hltz : ¬ (k : Int) < (l.length : Int) := by omega
      obtain rfl : k = l.length := by omega
      obtain ⟨⟨b0, b1, b2⟩, g0, g1, g2⟩ := HR.out.box
      have hown := HR.out.own
      rw [List.take_length] at hown
      have HO := Lib.hid (hown.mono (show w.heap.size ≤ BR + 1 by have := HR.out.gt; omega))
      have HBL := Lib.hid HR.out.bl
      have HBX := Lib.hid HR.out.box
      have HBZ := Lib.hid HR.out.zero
      have HGT := Lib.hid HR.out.gt
      have HOB := Lib.hid (fun j hj => (hown.lt (g := j) hj).1)
      clear hown HR
      go_wp2_with fail
      refine (HM.out _ wr HO.out.at).mono ?_
      rintro _ w4 ⟨rfl, hb4⟩
      have HB4 := Lib.hid (HBL.out.trans (hb4.mono HBL.out.size))
      replace HO := Lib.hid (HO.out.below hb4)
      replace HBX := Lib.hid (HBX.out.below hb4)
      replace HBZ := Lib.hid (HBZ.out.below hb4)
      clear hb4 b0 b1 b2 g0 g1 g2 HBL
      obtain ⟨⟨b0, b1, b2⟩, g0, g1, g2⟩ := HBX.out
      go_wp2_with fail
      refine (HX.out _ w4 HB4.out HO.out.at).mono ?_
      rintro _ w5 ⟨rfl, hb5⟩
      have HB5 := Lib.hid (HB4.out.trans (hb5.mono HB4.out.size))
      replace HO := Lib.hid (HO.out.below hb5)
      replace HBX := Lib.hid (HBX.out.below hb5)
      replace HBZ := Lib.hid (HBZ.out.below hb5)
      clear hb5 b0 b1 b2 g0 g1 g2
      obtain ⟨⟨b0, b1, b2⟩, g0, g1, g2⟩ := HBX.out
      obtain ⟨⟨y0, y1, y2⟩, f0, f1, f2⟩ := HBZ.out
      have hne : ¬ w.heap.size = BR := by have := HGT.out; omega
      have hne' : ¬ BR = w.heap.size := by have := HGT.out; omega
      go_wp2_with fail
      obtain ⟨⟨t0, t1, t2⟩, _⟩ := rc_put HBZ.out e nw la l.length lc
      refine bodyPost_ret (v := .tuple #[.agg #[.int .i64 e, .slice la l.length lc, .int .i64 nw], .bool true]) (by simp [results, Tryz.results52, go_sem, t0, t1, t2]) rfl ⟨la, lc, rfl, HO.out.kept (fun j hj => ?_), ((HB5.out.setCell (p := ⟨w.heap.size, 0, none⟩) (Nat.le_refl _) _).setCell (p := ⟨w.heap.size, 1, none⟩) (Nat.le_refl _) _).setCell (p := ⟨w.heap.size, 2, none⟩) (Nat.le_refl _) _⟩
      have h1 := HOB.out j hj
      have h2 := HGT.out
      have h3 : j ≠ w.heap.size := by omega
      rw [Below.heap_setCell _ _ _ _ h3, Below.heap_setCell _ _ _ _ h3, Below.heap_setCell _ _ _ _ h3]
end Go.Proofs.YtaacdggjkfmehaaGreatDoor
namespace Go.Proofs.YtaacdggjkfmehaaGreatDoor
open Go.RowKit Go.Maps Go.Proofs.MapD Go.Proofs.Chest
def folK (a b : Ro) (k : Nat) : Bool := eqR b (addR a (k + 1 : Nat)).1 || eqR b (dropR a (k + 1 : Nat)).1
theorem fol_hit {a b : Ro} {k : Nat} (ha : a.ep ≠ 0) (hk : k < 5) (h : folK a b k = true) : folS a b = true := by
  unfold folS
  rw [if_neg ha, Bool.or_eq_true]
  exact .inl (List.any_eq_true.2 ⟨k, List.mem_range.2 hk, h⟩)
theorem fol_miss {a b : Ro} (ha : a.ep ≠ 0) (h : ∀ k, k < 5 → folK a b k = false) : folS a b = (decide (a.nw ≠ 0) && eqR b ⟨a.ep, a.l, 0⟩) := by
  have e : (List.range 5).any (fun k : Nat => eqR b (addR a (k + 1 : Nat)).1 || eqR b (dropR a (k + 1 : Nat)).1) = false := by
    rw [List.any_eq_false]
    intro k hk
    have := h k (List.mem_range.1 hk)
    unfold folK at this
    rw [this]
    exact Bool.false_ne_true
  unfold folS
  rw [if_neg ha, e, Bool.false_or]
structure FoR (w : World) (a b : Ro) (v v' : Value) (k : Nat) (wr : World) : Prop where
  ca : RC wr w.heap.size a.ep v a.nw
  cb : RC wr (w.heap.size + 1) b.ep v' b.nw
  bl : Below w.heap.size w wr
  ge : w.heap.size + 2 ≤ wr.heap.size
  no : ∀ j, j < k → folK a b j = false
theorem FoR.below {w wr w2 : World} {a b : Ro} {v v' : Value} {k : Nat} (h : FoR w a b v v' k wr) (hb : Below wr.heap.size wr w2) : FoR w a b v v' k w2 :=
  ⟨h.ca.below hb, h.cb.below hb, h.bl.trans (hb.mono h.bl.size), Nat.le_trans h.ge hb.size, h.no⟩
theorem FoR.next {w wr : World} {a b : Ro} {v v' : Value} {k : Nat} (h : FoR w a b v v' k wr) (hf : folK a b k = false) : FoR w a b v v' (k + 1) wr :=
  ⟨h.ca, h.cb, h.bl, h.ge, fun j hj => by
    by_cases e : j = k
    · exact e ▸ hf
    · exact h.no j (by omega)⟩
set_option maxRecDepth 100000 in
set_option maxHeartbeats 8000000 in
theorem follows_p (e nw e' nw' : Int) (v v' : Value) (l l' : List Int) (w : World) (h : IsAt w v l) (h' : IsAt w v' l') (hn : l.length ≤ 900) (hn' : l'.length ≤ 900) :
    Calls Tryz.prog 54 #[.agg #[.int .i64 e, v, .int .i64 nw], .agg #[.int .i64 e', v', .int .i64 nw']] w fun r w' => r = .returned (.bool (folS ⟨e, l, nw⟩ ⟨e', l', nw'⟩)) ∧ Below w.heap.size w w' := by
  obtain ⟨ad, cap, rfl, _⟩ := h.shape
  obtain ⟨ad', cap', rfl, _⟩ := h'.shape
  obtain ⟨h1, h2, hb⟩ := two_boxes w e nw e' nw' ad ad' l.length l'.length cap cap' 24
  have HB := Lib.hid hb
  have HV := Lib.hid (fun W (hW : Below w.heap.size w W) => And.intro (h.below hW) (h'.below hW))
  have HS0 : Hid (FoR w ⟨e, l, nw⟩ ⟨e', l', nw'⟩ (.slice ad l.length cap) (.slice ad' l'.length cap') 0 ((w.alloc (.cells #[.int .i64 e, .slice ad l.length cap, .int .i64 nw] 24)).alloc (.cells #[.int .i64 e', .slice ad' l'.length cap', .int .i64 nw'] 24))) := Lib.hid ⟨h1, h2, hb, by simp, fun j hj => by omega⟩
  have HADD := Lib.hid (fun (n : Int) W (hW : Below w.heap.size w W) => add_p e nw n _ l W (h.below hW) (by omega))
  have HDRP := Lib.hid (fun (n : Int) W (hW : Below w.heap.size w W) => drop_p e nw n _ l W (h.below hW) (by omega))
  have HLA := Lib.hid (fun (n : Int) => addR_len ⟨e, l, nw⟩ n)
  have HLD := Lib.hid (fun (n : Int) => dropR_len ⟨e, l, nw⟩ n)
  have HN := Lib.hid (And.intro hn hn')
  clear h h' hb h1 h2 hn hn'
  by_cases he : e = 0
  · subst he
    rw [show folS ⟨0, l, nw⟩ ⟨e', l', nw'⟩ = decide (nw' = 0) from rfl]
    obtain ⟨⟨b0, b1, b2⟩, _⟩ := HS0.out.ca
    obtain ⟨⟨d0, d1, d2⟩, _⟩ := HS0.out.cb
    dsimp only at b0 b1 b2 d0 d1 d2
    clear HS0
    go_enter Tryz.func54, Tryz.ntmps54
    go_wp2_with fail
    generalize ((w.alloc (.cells #[.int .i64 0, .slice ad l.length cap, .int .i64 nw] 24)).alloc (.cells #[.int .i64 e', .slice ad' l'.length cap', .int .i64 nw'] 24)) = W at *
    go_wp2_with fail
    go_ret
    first | exact ⟨rfl, HB.out⟩ | (refine ⟨?_, HB.out⟩; congr 1)
  · obtain ⟨R, hR⟩ : ∃ R, folS ⟨e, l, nw⟩ ⟨e', l', nw'⟩ = R := ⟨_, rfl⟩
    rw [hR]
    have HRR := Lib.hid hR
    clear hR
    have heb : (e == 0) = false := by rw [beq_eq_false_iff_ne]; exact he
    have HE := Lib.hid (show (⟨e, l, nw⟩ : Ro).ep ≠ 0 from he)
    clear he
    go_enter Tryz.func54, Tryz.ntmps54
    go_wp2_with fail
    generalize ((w.alloc (.cells #[.int .i64 e, .slice ad l.length cap, .int .i64 nw] 24)).alloc (.cells #[.int .i64 e', .slice ad' l'.length cap', .int .i64 nw'] 24)) = W at *
    obtain ⟨⟨b0, b1, b2⟩, _⟩ := HS0.out.ca
    dsimp only at b0 b1 b2
    go_wp2_with fail
    clear b0 b1 b2 HB
    go_loopw [5, 6, 7, 8, 9] (fun v5 _ _ _ _ wr => ∃ (k : Nat), v5 = .int .i64 ((k : Int) + 1) ∧ k ≤ 5 ∧ Hid (FoR w ⟨e, l, nw⟩ ⟨e', l', nw'⟩ (.slice ad l.length cap) (.slice ad' l'.length cap') k wr)) (fun v5 _ _ _ _ _ => 6 - (intOf v5).toNat)
    case atStart => exact ⟨0, rfl, Nat.zero_le _, HS0⟩
    case round =>
      obtain ⟨k, rfl, hk, HR⟩ := hrel
      by_cases hlt : k < 5
      · have hlt2 : (k : Int) + 1 ≤ 5 := by omega
        obtain ⟨⟨b0, b1, b2⟩, _⟩ := HR.out.ca
        dsimp only at b0 b1 b2
        have HKK := Lib.hid (show folK ⟨e, l, nw⟩ ⟨e', l', nw'⟩ k = (eqR ⟨e', l', nw'⟩ (addR ⟨e, l, nw⟩ ((k : Int) + 1)).1 || eqR ⟨e', l', nw'⟩ (dropR ⟨e, l, nw⟩ ((k : Int) + 1)).1) from rfl)
        have HL1 := HLA.out ((k : Int) + 1)
        have HL2 := HLD.out ((k : Int) + 1)
        have HA := HADD.out ((k : Int) + 1) wr HR.out.bl
        have HD := Lib.hid (fun W hW => HDRP.out ((k : Int) + 1) W hW)
        unfold RoOut at HA HD
        generalize addR ⟨e, l, nw⟩ ((k : Int) + 1) = R1 at *
        generalize dropR ⟨e, l, nw⟩ ((k : Int) + 1) = R2 at *
        obtain ⟨⟨e1, l1, n1⟩, o1⟩ := R1
        obtain ⟨⟨e2, l2, n2⟩, o2⟩ := R2
        dsimp only at HL1 HL2 HA HD
        have HLL := Lib.hid (And.intro HL1 HL2)
        have HA' := Lib.hid HA
        clear HL1 HL2 HA
        go_wp2_with fail
        refine HA'.out.mono ?_
        rintro _ w2 ⟨a1, c1, rfl, ho1, hb1⟩
        have hx1 : Below wr.heap.size wr (w2.alloc (.cells #[.int .i64 e1, .slice a1 l1.length c1, .int .i64 n1] 24)) := hb1.alloc hb1.size _
        have HR1 := Lib.hid (HR.out.below hx1)
        have HC1 := Lib.hid (RC.new w2 e1 a1 l1.length c1 n1 24)
        have HI1 := Lib.hid (ho1.at.below ((Below.refl _ _).alloc (Nat.le_refl _) (.cells #[.int .i64 e1, .slice a1 l1.length c1, .int .i64 n1] 24)))
        have HRw := HR.out.below hb1
        have hs1 : w.heap.size < w2.heap.size := by have := HRw.ge; omega
        clear b0 b1 b2
        obtain ⟨⟨b0, b1, b2⟩, _⟩ := HRw.ca
        dsimp only at b0 b1 b2
        clear ho1 hb1 hx1 HA' HR HRw
        go_wp2_with fail
        clear b0 b1 b2 hs1
        generalize (w2.alloc (.cells #[.int .i64 e1, .slice a1 l1.length c1, .int .i64 n1] 24)) = X1 at *
        generalize w2.heap.size = B1 at *
        refine (HD.out X1 HR1.out.bl).mono ?_
        rintro _ w3 ⟨a2, c2, rfl, ho2, hb2⟩
        have hx2 : Below X1.heap.size X1 (w3.alloc (.cells #[.int .i64 e2, .slice a2 l2.length c2, .int .i64 n2] 24)) := hb2.alloc hb2.size _
        have HR2 := Lib.hid (HR1.out.below hx2)
        have HC1' := Lib.hid (HC1.out.below hx2)
        have HI1' := Lib.hid (HI1.out.below hx2)
        have HC2 := Lib.hid (RC.new w3 e2 a2 l2.length c2 n2 24)
        have HI2 := Lib.hid (ho2.at.below ((Below.refl _ _).alloc (Nat.le_refl _) (.cells #[.int .i64 e2, .slice a2 l2.length c2, .int .i64 n2] 24)))
        have HRw := HR1.out.below hb2
        have HCw := HC1.out.below hb2
        have hs1 : w.heap.size + 1 < w3.heap.size := by have := HRw.ge; omega
        have hs2 : B1 < w3.heap.size := HCw.lt
        obtain ⟨⟨d0, d1, d2⟩, _⟩ := HRw.cb
        obtain ⟨⟨p0, p1, p2⟩, _⟩ := HCw
        dsimp only at d0 d1 d2
        clear ho2 hb2 hx2 HD HR1 HC1 HI1 HRw
        go_wp2_with fail
        clear d0 d1 d2 p0 p1 p2 hs1 hs2
        generalize (w3.alloc (.cells #[.int .i64 e2, .slice a2 l2.length c2, .int .i64 n2] 24)) = X2 at *
        generalize w3.heap.size = B2 at *
        refine (eq_p e' nw' e1 n1 _ _ l' l1 X2 (HV.out X2 HR2.out.bl).2 HI1'.out (by have := HN.out; omega) (by have := HN.out; have := HLL.out; omega)).mono ?_
        rintro _ X3 ⟨rfl, hb3⟩
        have HR3 := Lib.hid (HR2.out.below hb3)
        have HC2' := Lib.hid (HC2.out.below hb3)
        have HI2' := Lib.hid (HI2.out.below hb3)
        clear hb3 HR2 HC1' HI1' HC2 HI2
        cases hq1 : eqR ⟨e', l', nw'⟩ ⟨e1, l1, n1⟩ with
        | true =>
          have hf : folS ⟨e, l, nw⟩ ⟨e', l', nw'⟩ = true := fol_hit HE.out hlt (by rw [HKK.out, hq1]; rfl)
          rw [HRR.out] at hf
          subst hf
          clear HKK hq1
          go_wp2_with fail
          go_ret
          exact ⟨rfl, HR3.out.bl⟩
        | false =>
          obtain ⟨⟨d0, d1, d2⟩, _⟩ := HR3.out.cb
          obtain ⟨⟨p0, p1, p2⟩, _⟩ := HC2'.out
          dsimp only at d0 d1 d2
          rw [hq1, Bool.false_or] at HKK
          clear hq1
          go_wp2_with fail
          refine (eq_p e' nw' e2 n2 _ _ l' l2 X3 (HV.out X3 HR3.out.bl).2 HI2'.out (by have := HN.out; omega) (by have := HN.out; have := HLL.out; omega)).mono ?_
          rintro _ X4 ⟨rfl, hb4⟩
          have HR4 := Lib.hid (HR3.out.below hb4)
          clear hb4 d0 d1 d2 p0 p1 p2 HR3 HC2' HI2'
          cases hq2 : eqR ⟨e', l', nw'⟩ ⟨e2, l2, n2⟩ with
          | true =>
            have hf : folS ⟨e, l, nw⟩ ⟨e', l', nw'⟩ = true := fol_hit HE.out hlt (by rw [HKK.out, hq2])
            rw [HRR.out] at hf
            subst hf
            clear HKK hq2
            go_wp2_with fail
            go_ret
            exact ⟨rfl, HR4.out.bl⟩
          | false =>
            have HR5 := Lib.hid (HR4.out.next (by rw [HKK.out, hq2]))
            clear HKK hq2 HR4
            go_wp2_with fail
            go_roundw
            case rel => exact ⟨k + 1, by go_num, by omega, HR5⟩
            case measure => simp [intOf]; omega
      · obtain rfl : k = 5 := by omega
        have hf : folS ⟨e, l, nw⟩ ⟨e', l', nw'⟩ = (decide (nw ≠ 0) && eqR ⟨e', l', nw'⟩ ⟨e, l, 0⟩) := fol_miss HE.out HR.out.no
        rw [HRR.out] at hf
        clear HRR
        obtain ⟨⟨b0, b1, b2⟩, _⟩ := HR.out.ca
        obtain ⟨⟨d0, d1, d2⟩, _⟩ := HR.out.cb
        dsimp only at b0 b1 b2 d0 d1 d2
        have hx : Below wr.heap.size wr (wr.alloc (.cells #[.int .i64 e, .slice ad l.length cap, .int .i64 0] 24)) := (Below.refl _ _).alloc (Nat.le_refl _) _
        have HR1 := Lib.hid (HR.out.below hx)
        have HC1 := Lib.hid (RC.new wr e ad l.length cap 0 24)
        clear hx
        have hs1 : w.heap.size < wr.heap.size := by have := HR.out.ge; omega
        have hs2 : w.heap.size + 1 < wr.heap.size := by have := HR.out.ge; omega
        by_cases hw : nw = 0
        · subst hw
          rw [decide_eq_false (by simp), Bool.false_and] at hf
          subst hf
          go_wp2_with fail
          go_ret
          exact ⟨rfl, HR1.out.bl⟩
        · have hwb : (nw != 0) = true := by rw [bne_iff_ne]; exact hw
          rw [decide_eq_true hw, Bool.true_and] at hf
          subst hf
          clear hw
          go_wp2_with fail
          generalize (wr.alloc (.cells #[.int .i64 e, .slice ad l.length cap, .int .i64 0] 24)) = X1 at *
          refine (eq_p e' nw' e 0 _ _ l' l X1 (HV.out X1 HR1.out.bl).2 (HV.out X1 HR1.out.bl).1 (by have := HN.out; omega) (by have := HN.out; omega)).mono ?_
          rintro _ X2 ⟨rfl, hb2⟩
          have HB2 := Lib.hid (HR1.out.bl.trans (hb2.mono HR1.out.bl.size))
          clear hb2
          go_wp2_with fail
          go_ret
          exact ⟨rfl, HB2.out⟩
end Go.Proofs.YtaacdggjkfmehaaGreatDoor
namespace Go.Proofs.YtaacdggjkfmehaaGreatDoor
open Go.RowKit Go.Maps Go.Proofs.MapD Go.Proofs.Chest
theorem okc_at : ∀ (l : List Ro) (a : Ro) (k : Nat) (x : Ro), okc a l → l[k]? = some x → mayR x = true ∧ folS (lastC a (l.take k)) x = true ∧ lastC a (l.take (k + 1)) = x
  | b :: l, a, 0, x, ⟨h1, h2, h3⟩, hx => by
    obtain rfl : b = x := by simpa using hx
    exact ⟨h1, h2, rfl⟩
  | b :: l, a, k + 1, x, ⟨h1, h2, h3⟩, hx => okc_at l b k x h3 (by simpa using hx)
  | [], _, _, _, _, hx => by simp at hx
theorem okc_len : ∀ (l : List Ro) (a : Ro), okc a l → a.l.length ≤ 5 → (lastC a l).l.length ≤ 5
  | [], _, _, h => h
  | b :: l, a, ⟨h1, _, h3⟩, _ => okc_len l b h3 (by have := mayR_len (e := b.ep) (l := b.l) (nw := b.nw) h1; omega)
theorem okc_take : ∀ (l : List Ro) (a : Ro) (k : Nat), okc a l → okc a (l.take k)
  | [], _, k, _ => by simp [okc]
  | b :: l, a, 0, _ => trivial
  | b :: l, a, k + 1, ⟨h1, h2, h3⟩ => ⟨h1, h2, okc_take l b k h3⟩
theorem RH.reads {w : World} {b : Nat} {e n : Int} {a : Option Addr} {k c : Nat} (h : RH w b e (.slice a k c) n) {g o m cap : Nat} {l : List ByteArray} (hr : Reads w (.slice (some ⟨g, o, none⟩) m cap) l) {w' : World} (hk : ∀ j, j ≠ b → w'.heap[j]? = w.heap[j]?) : Reads w' (.slice (some ⟨g, o, none⟩) m cap) l := by
  obtain ⟨ad, cap', hv, h1⟩ := hr
  refine ⟨ad, cap', hv, fun hl => ?_⟩
  obtain ⟨g', o', h2, h3, h4⟩ := h1 hl
  refine ⟨g', o', h2, h3, fun j s hj => ?_⟩
  have h5 := h4 j s hj
  have hne : g' ≠ b := by
    rintro rfl
    rw [cell_block h] at h5
    match o' + j, h5 with
    | 0, h5 => simp at h5
    | 1, h5 => simp at h5
    | 2, h5 => simp at h5
    | n + 3, h5 => simp at h5
  have e1 := cell_congr (o := o' + j) (hk g' hne)
  rw [e1]
  exact h5
structure LsR (w : World) (r : Ro) (wr : World) : Prop where
  res : RC wr w.heap.size 0 (.slice none 0 0) 0
  box : ∃ ad cap, RH wr (w.heap.size + 1) r.ep (.slice ad r.l.length cap) r.nw ∧ IOwn wr (w.heap.size + 2) (.slice ad r.l.length cap) r.l
  bl : Below w.heap.size w wr
  ge : w.heap.size + 2 ≤ wr.heap.size
theorem LsR.below {w wr w2 : World} {r : Ro} (h : LsR w r wr) (hb : Below wr.heap.size wr w2) : LsR w r w2 := by
  obtain ⟨h1, ⟨ad, cap, h2, h3⟩, h4, h5⟩ := h
  exact ⟨h1.below hb, ⟨ad, cap, (hb.block _ h2.lt).trans h2, h3.below hb⟩, h4.trans (hb.mono h4.size), Nat.le_trans h5 hb.size⟩
theorem LsR.put {w wr : World} {r r' : Ro} {a : Option Addr} {c : Nat} (h : LsR w r wr) (ho : IOwn wr (w.heap.size + 2) (.slice a r'.l.length c) r'.l) :
    LsR w r' (((wr.setCell ⟨w.heap.size + 1, 0, none⟩ (.int .i64 r'.ep)).setCell ⟨w.heap.size + 1, 1, none⟩ (.slice a r'.l.length c)).setCell ⟨w.heap.size + 1, 2, none⟩ (.int .i64 r'.nw)) ∧
    (∀ j, j ≠ w.heap.size + 1 → (((wr.setCell ⟨w.heap.size + 1, 0, none⟩ (.int .i64 r'.ep)).setCell ⟨w.heap.size + 1, 1, none⟩ (.slice a r'.l.length c)).setCell ⟨w.heap.size + 1, 2, none⟩ (.int .i64 r'.nw)).heap[j]? = wr.heap[j]?) := by
  obtain ⟨h1, ⟨ad, cap, h2, h3⟩, h4, h5⟩ := h
  have hk : ∀ j, j ≠ w.heap.size + 1 → (((wr.setCell ⟨w.heap.size + 1, 0, none⟩ (.int .i64 r'.ep)).setCell ⟨w.heap.size + 1, 1, none⟩ (.slice a r'.l.length c)).setCell ⟨w.heap.size + 1, 2, none⟩ (.int .i64 r'.nw)).heap[j]? = wr.heap[j]? := fun j hj => by
    rw [Below.heap_setCell _ _ _ _ hj, Below.heap_setCell _ _ _ _ hj, Below.heap_setCell _ _ _ _ hj]
  refine ⟨⟨h1.kept (hk _ (by omega)), ⟨a, c, h2.put r'.ep r'.nw _, ho.kept (fun j hj => hk j (by have := (ho.lt hj).1; omega))⟩, ((h4.setCell (p := ⟨w.heap.size + 1, 0, none⟩) (by simp) _).setCell (p := ⟨w.heap.size + 1, 1, none⟩) (by simp) _).setCell (p := ⟨w.heap.size + 1, 2, none⟩) (by simp) _, ?_⟩, hk⟩
  simpa [World.setCell] using h5
theorem LsR.start (w : World) : LsR w Ro.zero ((w.alloc (.cells #[.int .i64 0, .slice none 0 0, .int .i64 0] 24)).alloc (.cells #[.int .i64 0, .slice none 0 0, .int .i64 0] 24)) := by
  obtain ⟨h1, h2, hb⟩ := two_boxes w 0 0 0 0 none none 0 0 0 0 24
  refine ⟨h1, ⟨none, 0, ?_, IOwn.nil _ _⟩, hb, by simp⟩
  have := heap_alloc_new (w.alloc (.cells #[.int .i64 0, .slice none 0 0, .int .i64 0] 24)) (.cells #[.int .i64 0, .slice none 0 0, .int .i64 0] 24)
  rw [show (w.alloc (.cells #[.int .i64 0, .slice none 0 0, .int .i64 0] 24)).heap.size = w.heap.size + 1 by simp] at this
  exact this
section
variable {w0 w : World} {c j R : Nat} {b : Option Ro} {rs : List Ro} {r : Ro} {L : List It}
set_option maxRecDepth 100000 in
set_option maxHeartbeats 8000000 in
theorem lasting_p (h : Sp w0 w (jc c j (jst R b rs) (jjr b rs) :: L)) (hg : JG b rs r) (hlib : LibAt w0) :
    Calls Tryz.prog 24 #[.pointer (some ⟨j, 0, none⟩)] w (RoOut (r, true) w) := by
  have HLIB := Lib.hid (fun W (hW : Below w.heap.size w W) => (hlib.below h.bl).below hW)
  have HSP := Lib.hid (fun W (hW : Below w.heap.size w W) => h.below hW)
  have HRS : Hid (rs.length ≤ 700) := Lib.hid hg.len
  have HBASE := Lib.hid hg.base
  have HOK : Hid (okc (baseR b) rs ∧ lastC (baseR b) rs = r ∧ (baseR b).l.length ≤ 5) := Lib.hid ⟨hg.chain, hg.last, by
    cases b with
    | none => simp [baseR, Ro.zero]
    | some x => have := mayR_len (e := x.ep) (l := x.l) (nw := x.nw) (hg.base x rfl); show x.l.length ≤ 5; omega⟩
  have HL0 := Lib.hid (LsR.start w)
  clear h hg hlib
  go_enter Tryz.func24, Tryz.ntmps24
  go_wp2_with fail
  generalize ((w.alloc (.cells #[.int .i64 0, .slice none 0 0, .int .i64 0] 24)).alloc (.cells #[.int .i64 0, .slice none 0 0, .int .i64 0] 24)) = W at *
  refine (s_first (HSP.out W HL0.out.bl)).mono ?_
  rintro _ _ ⟨rfl, rfl⟩
  cases b
  case' none =>
    rw [show (jjr none rs).first = ⟨#[]⟩ from rfl]
    have HL : Hid (LsR w (baseR none) W) := HL0
    generalize baseR none = Q at *
    clear HBASE HL0
    generalize W = WL at *
    go_wp2_with fail
  case' some x =>
    rw [show (jjr (some x) rs).first = txtR x from rfl]
    have hm := HBASE.out x rfl
    have HT := txt_size hm
    have hne := isEmpty_ne (V := txtR x) (by omega)
    have HRD : Hid (∀ W, Below w.heap.size w W → Calls Tryz.prog 52 #[.string (txtR x)] W (RoOut (x, true) W)) := Lib.hid (fun W hW => read_p x.ep x.nw x.l W hm (HLIB.out W hW))
    generalize txtR x = TX at *
    clear HT hm HBASE
    go_wp2_with fail
    refine (HRD.out W HL0.out.bl).mono ?_
    rintro _ w2 ⟨a1, c1, rfl, ho, hb⟩
    dsimp only at ho ⊢
    have HL1 := Lib.hid (HL0.out.below hb)
    have HO := Lib.hid (ho.mono (B' := w.heap.size + 2) HL0.out.ge)
    have HL2 := Lib.hid (HL1.out.put HO.out).1
    clear ho hb HL0 HRD
    obtain ⟨_, ⟨ad0, cap0, hRH, _⟩, _⟩ := HL1.out
    obtain ⟨⟨b0, b1, b2⟩, g0, g1, g2⟩ := hRH.rc
    clear hRH
    go_wp2_with fail
    clear b0 b1 b2 g0 g1 g2 HL1 HO hne
    have HL : Hid (LsR w (baseR (some x)) (((w2.setCell ⟨w.heap.size + 1, 0, none⟩ (.int .i64 x.ep)).setCell ⟨w.heap.size + 1, 1, none⟩ (.slice a1 x.l.length c1)).setCell ⟨w.heap.size + 1, 2, none⟩ (.int .i64 x.nw))) := HL2
    clear HL2
    generalize (((w2.setCell ⟨w.heap.size + 1, 0, none⟩ (.int .i64 x.ep)).setCell ⟨w.heap.size + 1, 1, none⟩ (.slice a1 x.l.length c1)).setCell ⟨w.heap.size + 1, 2, none⟩ (.int .i64 x.nw)) = WL at *
    generalize baseR (some x) = Q at *
  all_goals
    refine (s_records (HSP.out WL HL.out.bl) (by show (rs.map txtR).length ≤ 1000000; rw [List.length_map]; have := HRS.out; omega)).mono ?_
    rintro _ w3 ⟨v, rfl, hr, hb3, _⟩
    have hr : Reads w3 v (rs.map txtR) := hr
    obtain ⟨ad, cap, rfl, _⟩ := id hr
    rw [List.length_map] at *
    have HRD3 := Lib.hid hr
    have HL3 := Lib.hid (HL.out.below hb3)
    clear hr hb3 HL
    go_wp2_with fail
    go_loopw [5, 8, 9, 10, 24] (fun v5 _ _ _ v24 wr => ∃ (k : Nat), v5 = .bool true ∧ v24 = .int .i64 k ∧ k ≤ rs.length ∧ Hid (Reads wr (.slice ad rs.length cap) (rs.map txtR)) ∧ Hid (LsR w (lastC Q (rs.take k)) wr)) (fun _ _ _ _ v24 _ => rs.length - (intOf v24).toNat)
    case atStart => exact ⟨0, rfl, rfl, Nat.zero_le _, HRD3, HL3⟩
    case round =>
      obtain ⟨k, rfl, rfl, hk, HRS2, HR⟩ := hrel
      have hrs7 : (rs.length : Int) ≤ 700 := by have := HRS.out; omega
      by_cases hlt : k < rs.length
      · have hltz : (k : Int) < (rs.length : Int) := by omega
        obtain ⟨x, hx⟩ : ∃ x, rs[k]? = some x := ⟨_, List.getElem?_eq_getElem hlt⟩
        obtain ⟨hm, hf, hla⟩ := okc_at _ _ k x HOK.out.1 hx
        have hly := okc_len _ _ (okc_take rs Q k HOK.out.1) HOK.out.2.2
        have hlx : x.l.length ≤ 5 := by have := mayR_len (e := x.ep) (l := x.l) (nw := x.nw) hm; omega
        obtain ⟨ad', cap', hv, hcl⟩ := HRS2.out
        rw [List.length_map] at hv hcl
        cases hv
        obtain ⟨g, o, rfl, _, hc⟩ := hcl (by omega)
        have d0 := hc k (txtR x) (by rw [List.getElem?_map, hx]; rfl)
        have HRD := Lib.hid (read_p x.ep x.nw x.l wr hm (HLIB.out wr HR.out.bl))
        change Hid (Calls _ _ #[.string (txtR x)] wr _) at HRD
        have HFX := Lib.hid (And.intro hf (And.intro hla (And.intro hly hlx)))
        have HTX := Lib.hid (show ∀ W, Reads W (.slice (some ⟨g, o, none⟩) rs.length cap) (rs.map txtR) → Reads W (.slice (some ⟨g, o, none⟩) rs.length cap) (rs.map txtR) from fun _ h => h)
        generalize txtR x = TX at *
        clear hcl hc hm hf hla hly hlx hx
        go_wp2_with fail
        refine HRD.out.mono ?_
        rintro _ w4 ⟨a1, c1, rfl, ho, hb4⟩
        dsimp only at ho ⊢
        have hx4 : Below wr.heap.size wr (w4.alloc (.cells #[.int .i64 x.ep, .slice a1 x.l.length c1, .int .i64 x.nw] 24)) := hb4.alloc hb4.size _
        have HL4 := Lib.hid (HR.out.below hx4)
        have HRS4 := Lib.hid (HRS2.out.below hx4)
        have HO4 := Lib.hid ((ho.mono (B' := w.heap.size + 2) HR.out.ge).below ((Below.refl _ _).alloc (Nat.le_refl _) (.cells #[.int .i64 x.ep, .slice a1 x.l.length c1, .int .i64 x.nw] 24)))
        have HC4 := Lib.hid (RC.new w4 x.ep a1 x.l.length c1 x.nw 24)
        have HLw := HR.out.below hb4
        obtain ⟨_, ⟨ady, capy, hRH, hIO⟩, _, hgew⟩ := HLw
        obtain ⟨⟨b0, b1, b2⟩, _⟩ := hRH.rc
        clear hRH
        have HIY := Lib.hid (hIO.at.below ((Below.refl _ _).alloc (Nat.le_refl _) (.cells #[.int .i64 x.ep, .slice a1 x.l.length c1, .int .i64 x.nw] 24)))
        have hs1 : w.heap.size + 1 < w4.heap.size := by omega
        generalize lastC Q (rs.take k) = y at *
        clear ho hb4 hx4 HRD HR HRS2 d0 hgew hIO
        go_wp2_with fail
        generalize (w4.alloc (.cells #[.int .i64 x.ep, .slice a1 x.l.length c1, .int .i64 x.nw] 24)) = X at *
        generalize w4.heap.size = B4 at *
        clear b0 b1 b2 hs1
        refine (follows_p y.ep y.nw x.ep x.nw _ _ y.l x.l X HIY.out HO4.out.at (by have := HFX.out.2.2.1; omega) (by have := HFX.out.2.2.2; omega)).mono ?_
        change ∀ (r : Ending) (w' : World), (r = Ending.returned (Value.bool (folS y x)) ∧ _) → _
        rw [HFX.out.1]
        rintro _ w5 ⟨rfl, hb5⟩
        have HL5 := Lib.hid (HL4.out.below hb5)
        have HRS5 := Lib.hid (HRS4.out.below hb5)
        have HO5 := Lib.hid (HO4.out.below hb5)
        have HC5 := Lib.hid (HC4.out.below hb5)
        have HL6 := Lib.hid (HL5.out.put HO5.out).1
        obtain ⟨_, ⟨ad9, cap9, hRH, _⟩, _⟩ := HL5.out
        obtain ⟨⟨b0, b1, b2⟩, g0, g1, g2⟩ := hRH.rc
        have HRS6 : Hid (Reads (((w5.setCell ⟨w.heap.size + 1, 0, none⟩ (.int .i64 x.ep)).setCell ⟨w.heap.size + 1, 1, none⟩ (.slice a1 x.l.length c1)).setCell ⟨w.heap.size + 1, 2, none⟩ (.int .i64 x.nw)) (.slice (some ⟨g, o, none⟩) rs.length cap) (rs.map txtR)) := Lib.hid (hRH.reads HRS5.out (HL5.out.put HO5.out).2)
        clear hRH
        clear hb5 HL4 HRS4 HO4 HC4 HIY
        obtain ⟨⟨p0, p1, p2⟩, _⟩ := HC5.out
        go_wp2_with fail
        have HL7 : Hid (LsR w (lastC Q (rs.take (k + 1))) (((w5.setCell ⟨w.heap.size + 1, 0, none⟩ (.int .i64 x.ep)).setCell ⟨w.heap.size + 1, 1, none⟩ (.slice a1 x.l.length c1)).setCell ⟨w.heap.size + 1, 2, none⟩ (.int .i64 x.nw))) := Lib.hid (by rw [HFX.out.2.1]; exact HL6.out)
        clear b0 b1 b2 g0 g1 g2 p0 p1 p2 HL6 HL5 HRS5 HO5 HC5 HFX
        generalize (((w5.setCell ⟨w.heap.size + 1, 0, none⟩ (.int .i64 x.ep)).setCell ⟨w.heap.size + 1, 1, none⟩ (.slice a1 x.l.length c1)).setCell ⟨w.heap.size + 1, 2, none⟩ (.int .i64 x.nw)) = W6 at *
        go_roundw
        case rel => exact ⟨k + 1, rfl, by go_num, by omega, HRS6, HL7⟩
        case measure => simp [intOf]; omega
      · have hltz : ¬ (k : Int) < (rs.length : Int) := by omega
        obtain rfl : k = rs.length := by omega
        have HR' := HR.out
        rw [List.take_length, HOK.out.2.1] at HR'
        have HR9 := Lib.hid HR'
        clear HR' HR
        obtain ⟨y0, ⟨ad9, cap9, hRH, hIO⟩, hbl, hge⟩ := HR9.out
        have HZ := Lib.hid y0
        have HIO := Lib.hid hIO
        have HBL := Lib.hid hbl
        obtain ⟨⟨b0, b1, b2⟩, _⟩ := hRH.rc
        obtain ⟨⟨d0, d1, d2⟩, f0, f1, f2⟩ := y0
        clear hRH hIO hbl hge
        go_wp2_with fail
        obtain ⟨⟨t0, t1, t2⟩, _⟩ := rc_put HZ.out r.ep r.nw ad9 r.l.length cap9
        refine bodyPost_ret (v := .tuple #[.agg #[.int .i64 r.ep, .slice ad9 r.l.length cap9, .int .i64 r.nw], .bool true]) (by simp [results, Tryz.results24, go_sem, t0, t1, t2]) rfl ⟨ad9, cap9, rfl, (HIO.out.mono (show w.heap.size ≤ w.heap.size + 2 by omega)).kept (fun j hj => ?_), ((HBL.out.setCell (p := ⟨w.heap.size, 0, none⟩) (Nat.le_refl _) _).setCell (p := ⟨w.heap.size, 1, none⟩) (Nat.le_refl _) _).setCell (p := ⟨w.heap.size, 2, none⟩) (Nat.le_refl _) _⟩
        have h1 := (HIO.out.lt hj).1
        have h3 : j ≠ w.heap.size := by omega
        rw [Below.heap_setCell _ _ _ _ h3, Below.heap_setCell _ _ _ _ h3, Below.heap_setCell _ _ _ _ h3]
end
end Go.Proofs.YtaacdggjkfmehaaGreatDoor
