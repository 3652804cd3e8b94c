/-
  The contract of pouch's join, at any map of classes.
-/
import Derived.Test.YtgjnllkbfjeihaaDoorEqJ
import Derived.Test.YtgjnllkbfjeihaaDoorRegD
namespace Go.Proofs.YtgjnllkbfjeihaaDoor
open Go.RowKit

/-- Classes without a ring, of such places. -/
def Cls (A : Pl → Prop) (E : List (Pl × Pl)) : Prop := ∃ (r : Pl → Nat) (cl : Pl → Pl), Inv r cl E ∧ ∀ e ∈ E, A e.1 ∧ A e.2

theorem bound_of (r : Pl → Nat) (N : Nat) : ∀ E : List (Pl × Pl), ∃ R, N ≤ R ∧ ∀ e ∈ E, r e.2 ≤ R
  | [] => ⟨N, Nat.le_refl _, fun _ h => by cases h⟩
  | e :: E => by
    obtain ⟨R, h1, h2⟩ := bound_of r N E
    refine ⟨R + r e.2, by omega, fun f hf => ?_⟩
    rcases List.mem_cons.1 hf with rfl | hf
    · omega
    · have := h2 f hf; omega

/-- What join leaves. -/
def JoinP (A : Pl → Prop) (w : World) (m : Nat) (w' : World) : Prop := ∃ E', MapIs w' m E' ∧ SavM m w w' ∧ Cls A E'

theorem set_ne6 (L : Array Bool) (i : Nat) (h : i ≠ 6) : (L.setIfInBounds i true).getD 6 false = L.getD 6 false := by
  rw [Array.getD_eq_getD_getElem?, Array.getElem?_setIfInBounds_ne h, ← Array.getD_eq_getD_getElem?]

theorem set_ne7 (L : Array Bool) (i : Nat) (h : i ≠ 7) : (L.setIfInBounds i true).getD 7 false = L.getD 7 false := by
  rw [Array.getD_eq_getD_getElem?, Array.getElem?_setIfInBounds_ne h, ← Array.getD_eq_getD_getElem?]

set_option maxRecDepth 100000 in
set_option maxHeartbeats 4000000 in
theorem join_g (m : Nat) (E : List (Pl × Pl)) (xa ya : Addr) (xn yn : Int) (w : World) (A : Pl → Prop) (hA : ∀ p, A p → GoodP w p) (hm : MapIs w m E) (hc : Cls A E) (hx : A (xa, xn)) (hy : A (ya, yn)) :
    Calls Tryd.prog 22 #[.map (some m), .agg #[.pointer (some xa), .int .i64 xn], .agg #[.pointer (some ya), .int .i64 yn]] w fun e w' => ∃ b, e = .returned (.bool b) ∧ JoinP A w m w' := by
  obtain ⟨r, cl, hI, hG⟩ := hc
  obtain ⟨R, hR0, hR⟩ := bound_of r (r (xa, xn) + r (ya, yn)) E
  have hml := hm.lt
  have hmne : w.heap.size ≠ m ∧ w.heap.size + 1 ≠ m := ⟨by omega, by omega⟩
  have HA := Lib.hid hA
  have HM := Lib.hid (And.intro hm (And.intro hG (And.intro hx (And.intro hy (And.intro hI (And.intro hR (And.intro hR0 (And.intro hml hmne))))))))
  clear hA hm hG hx hy hI hR hR0 hml hmne
  go_enter Tryd.func22, Tryd.ntmps22
  go_wp2_with fail
  have e0 : ((w.alloc (.cells #[.pointer (some xa), .int .i64 xn] 63)).alloc (.cells #[.pointer (some ya), .int .i64 yn] 63)).cell? ⟨w.heap.size, 0, none⟩ = some (.pointer (some xa)) := by go_simp
  have e1 : ((w.alloc (.cells #[.pointer (some xa), .int .i64 xn] 63)).alloc (.cells #[.pointer (some ya), .int .i64 yn] 63)).cell? ⟨w.heap.size, 1, none⟩ = some (.int .i64 xn) := by go_simp
  have e2 : ((w.alloc (.cells #[.pointer (some xa), .int .i64 xn] 63)).alloc (.cells #[.pointer (some ya), .int .i64 yn] 63)).cell? ⟨w.heap.size + 1, 0, none⟩ = some (.pointer (some ya)) := by go_simp
  have e3 : ((w.alloc (.cells #[.pointer (some xa), .int .i64 xn] 63)).alloc (.cells #[.pointer (some ya), .int .i64 yn] 63)).cell? ⟨w.heap.size + 1, 1, none⟩ = some (.int .i64 yn) := by go_simp
  have f0 : ∀ o : Nat, ((w.alloc (.cells #[.pointer (some xa), .int .i64 xn] 63)).alloc (.cells #[.pointer (some ya), .int .i64 yn] 63)).frozen? ⟨w.heap.size, o, none⟩ = false := by intro o; go_simp
  have f1 : ∀ o : Nat, ((w.alloc (.cells #[.pointer (some xa), .int .i64 xn] 63)).alloc (.cells #[.pointer (some ya), .int .i64 yn] 63)).frozen? ⟨w.heap.size + 1, o, none⟩ = false := by intro o; go_simp
  have hBV : Below w.heap.size w ((w.alloc (.cells #[.pointer (some xa), .int .i64 xn] 63)).alloc (.cells #[.pointer (some ya), .int .i64 yn] 63)) := ((Below.refl _ _).alloc (Nat.le_refl _) _).alloc (by simp) _
  have hVs : ((w.alloc (.cells #[.pointer (some xa), .int .i64 xn] 63)).alloc (.cells #[.pointer (some ya), .int .i64 yn] 63)).heap.size = w.heap.size + 2 := by simp
  generalize (w.alloc (.cells #[.pointer (some xa), .int .i64 xn] 63)).alloc (.cells #[.pointer (some ya), .int .i64 yn] 63) = V at *
  have HBV := Lib.hid (And.intro hBV hVs)
  have hgV : ∀ p : Pl, A p → GoodP V.drew p := fun p hp => (HA.out p hp).sav ((HA.out p hp).ne HM.out.1) (SavM.of_below hBV.drew)
  have L1 := last_g m E xa xn r cl R V.drew A hgV (HM.out.1.of_block (hBV.drew.block m HM.out.2.2.2.2.2.2.2.1)) HM.out.2.1 HM.out.2.2.1 HM.out.2.2.2.2.1 HM.out.2.2.2.2.2.1 (by have := HM.out.2.2.2.2.2.2.1; omega)
  have HL1 := Lib.hid (And.intro L1 hgV)
  clear L1 hgV hBV hVs
  refine wp_region_D (S := fun L W => (L.getD 6 false = false → W.cell? ⟨w.heap.size, 0, none⟩ = some (.pointer (some xa)) ∧ W.cell? ⟨w.heap.size, 1, none⟩ = some (.int .i64 xn)) ∧ (L.getD 7 false = false → W.cell? ⟨w.heap.size + 1, 0, none⟩ = some (.pointer (some ya)) ∧ W.cell? ⟨w.heap.size + 1, 1, none⟩ = some (.int .i64 yn))) (by kernel_rfl) ⟨fun _ => ⟨e0, e1⟩, fun _ => ⟨e2, e3⟩⟩ (fun hS0 => ?_)
  refine wpAnyD_take (i := 0) (v := Value.map (some m)) rfl (by kernel_rfl) (by kernel_rfl) (by kernel_rfl) (by kernel_rfl) (fun _ _ _ h => h) (fun L w => by simp only [set_ne6 L 0 (by decide), set_ne7 L 0 (by decide)]) (by kernel_rfl) hS0 ⟨by rfl, fun L w' hL hD hS => ?_⟩ (fun hS0 => ?_)
  · refine .inl ?_
    go_simp
  refine wpAnyD_take (i := 1) (v := Value.agg #[.pointer (some xa), .int .i64 xn]) rfl (by kernel_rfl) (by kernel_rfl) (by kernel_rfl) (by kernel_rfl) (fun _ _ _ h => h) (fun L w => by simp only [set_ne6 L 1 (by decide), set_ne7 L 1 (by decide)]) (by kernel_rfl) hS0 ⟨by rfl, fun L w' hL hD hS => ?_⟩ (fun hS0 => ?_)
  · obtain ⟨hh, hh2⟩ := hS.1 (blocked (j := 6) hD hL (by kernel_rfl))
    refine .inl ?_
    go_simp
  refine wpAnyD_take (i := 3) (v := Value.map (some m)) rfl (by kernel_rfl) (by kernel_rfl) (by kernel_rfl) (by kernel_rfl) (fun _ _ _ h => h) (fun L w => by simp only [set_ne6 L 3 (by decide), set_ne7 L 3 (by decide)]) (by kernel_rfl) hS0 ⟨by rfl, fun L w' hL hD hS => ?_⟩ (fun hS0 => ?_)
  · refine .inl ?_
    go_simp
  refine wpAnyD_take (i := 4) (v := Value.agg #[.pointer (some ya), .int .i64 yn]) rfl (by kernel_rfl) (by kernel_rfl) (by kernel_rfl) (by kernel_rfl) (fun _ _ _ h => h) (fun L w => by simp only [set_ne6 L 4 (by decide), set_ne7 L 4 (by decide)]) (by kernel_rfl) hS0 ⟨by rfl, fun L w' hL hD hS => ?_⟩ (fun hS0 => ?_)
  · obtain ⟨hh, hh2⟩ := hS.2 (blocked (j := 7) hD hL (by kernel_rfl))
    refine .inl ?_
    go_simp
  clear hS0
  refine wpAnyD_one (i := 2) (by kernel_rfl) rfl (by kernel_rfl) (fun K hK => ?_)
  go_simp
  refine HL1.out.1.mono ?_
  rintro _ w1 ⟨E1, pa, pn, rfl, h1⟩
  have hgV := HL1.out.2
  have hg1 : ∀ p : Pl, A p → GoodP w1 p := fun p hp => (hgV p hp).sav ((hgV p hp).ne (HM.out.1.of_block (HBV.out.1.drew.block m HM.out.2.2.2.2.2.2.2.1))) h1.sav
  have L2 := last_g m E1 ya yn r cl R w1 A hg1 h1.map h1.good HM.out.2.2.2.1 h1.inv h1.bnd (by have := HM.out.2.2.2.2.2.2.1; omega)
  have HL2 := Lib.hid (And.intro L2 (And.intro h1 hg1))
  have hVd : V.drew.heap.size = w.heap.size + 2 := HBV.out.2
  have k0 := h1.sav.cell (show V.drew.cell? ⟨w.heap.size, 0, none⟩ = _ from e0) HM.out.2.2.2.2.2.2.2.2.1
  have k1 := h1.sav.cell (show V.drew.cell? ⟨w.heap.size, 1, none⟩ = _ from e1) HM.out.2.2.2.2.2.2.2.2.1
  have k2 := h1.sav.cell (show V.drew.cell? ⟨w.heap.size + 1, 0, none⟩ = _ from e2) HM.out.2.2.2.2.2.2.2.2.2
  have k3 := h1.sav.cell (show V.drew.cell? ⟨w.heap.size + 1, 1, none⟩ = _ from e3) HM.out.2.2.2.2.2.2.2.2.2
  have g0 : ∀ o : Nat, w1.frozen? ⟨w.heap.size, o, none⟩ = false := fun o => h1.sav.frz (by omega) (f0 o) HM.out.2.2.2.2.2.2.2.2.1
  have g1 : ∀ o : Nat, w1.frozen? ⟨w.heap.size + 1, o, none⟩ = false := fun o => h1.sav.frz (by omega) (f1 o) HM.out.2.2.2.2.2.2.2.2.2
  clear L2 h1 hg1 hgV e0 e1 e2 e3 f0 f1
  refine hK.out _ _ ⟨fun _ => ⟨k0, k1⟩, fun _ => ⟨k2, k3⟩⟩ (fun _ => ?_)
  clear hK
  refine wpAnyD_one (i := 5) (by kernel_rfl) rfl (by kernel_rfl) (fun K hK => ?_)
  go_simp
  refine HL2.out.1.mono ?_
  rintro _ w2 ⟨E2, qa, qn, rfl, h2⟩
  have h1 := HL2.out.2.1
  have hw1s := h1.sav.size
  have hw2s := h2.sav.size
  have m0 := h2.sav.cell k0 HM.out.2.2.2.2.2.2.2.2.1
  have m1 := h2.sav.cell k1 HM.out.2.2.2.2.2.2.2.2.1
  have m2 := h2.sav.cell k2 HM.out.2.2.2.2.2.2.2.2.2
  have m3 := h2.sav.cell k3 HM.out.2.2.2.2.2.2.2.2.2
  have n0 : w2.frozen? ⟨w.heap.size, 0, none⟩ = false := h2.sav.frz (by omega) (g0 0) HM.out.2.2.2.2.2.2.2.2.1
  have n1 : w2.frozen? ⟨w.heap.size, 1, none⟩ = false := h2.sav.frz (by omega) (g0 1) HM.out.2.2.2.2.2.2.2.2.1
  have n2 : w2.frozen? ⟨w.heap.size + 1, 0, none⟩ = false := h2.sav.frz (by omega) (g1 0) HM.out.2.2.2.2.2.2.2.2.2
  have n3 : w2.frozen? ⟨w.heap.size + 1, 1, none⟩ = false := h2.sav.frz (by omega) (g1 1) HM.out.2.2.2.2.2.2.2.2.2
  have H2 := Lib.hid (And.intro h1 h2)
  clear h1 h2 k0 k1 k2 k3 g0 g1
  refine hK.out _ _ ⟨fun _ => ⟨m0, m1⟩, fun _ => ⟨m2, m3⟩⟩ (fun _ => ?_)
  clear hK
  have u2 : ((w2.setCell ⟨w.heap.size, 0, none⟩ (.pointer (some pa))).setCell ⟨w.heap.size, 1, none⟩ (.int .i64 pn)).cell? ⟨w.heap.size + 1, 0, none⟩ = some (.pointer (some ya)) := by go_simp
  have u3 : ((w2.setCell ⟨w.heap.size, 0, none⟩ (.pointer (some pa))).setCell ⟨w.heap.size, 1, none⟩ (.int .i64 pn)).cell? ⟨w.heap.size + 1, 1, none⟩ = some (.int .i64 yn) := by go_simp
  have HU := Lib.hid (And.intro u2 u3)
  clear u2 u3
  refine wpAnyD_one (i := 6) (by kernel_rfl) rfl (by kernel_rfl) (fun K hK => ?_)
  go_simp
  refine hK.out _ _ ⟨fun h => (by cases h), fun _ => HU.out⟩ (fun _ => ?_)
  clear hK
  refine wpAnyD_one (i := 7) (by kernel_rfl) rfl (by kernel_rfl) (fun K hK => ?_)
  go_simp
  refine hK.out _ _ ⟨fun h => (by cases h), fun h => (by cases h)⟩ (fun _ => ?_)
  clear hK
  refine wpAnyD_done (by kernel_rfl) ?_ _
  have c0 : ((((w2.setCell ⟨w.heap.size, 0, none⟩ (.pointer (some pa))).setCell ⟨w.heap.size, 1, none⟩ (.int .i64 pn)).setCell ⟨w.heap.size + 1, 0, none⟩ (.pointer (some qa))).setCell ⟨w.heap.size + 1, 1, none⟩ (.int .i64 qn)).cell? ⟨w.heap.size, 0, none⟩ = some (.pointer (some pa)) := by go_simp
  have c1 : ((((w2.setCell ⟨w.heap.size, 0, none⟩ (.pointer (some pa))).setCell ⟨w.heap.size, 1, none⟩ (.int .i64 pn)).setCell ⟨w.heap.size + 1, 0, none⟩ (.pointer (some qa))).setCell ⟨w.heap.size + 1, 1, none⟩ (.int .i64 qn)).cell? ⟨w.heap.size, 1, none⟩ = some (.int .i64 pn) := by go_simp
  have c2 : ((((w2.setCell ⟨w.heap.size, 0, none⟩ (.pointer (some pa))).setCell ⟨w.heap.size, 1, none⟩ (.int .i64 pn)).setCell ⟨w.heap.size + 1, 0, none⟩ (.pointer (some qa))).setCell ⟨w.heap.size + 1, 1, none⟩ (.int .i64 qn)).cell? ⟨w.heap.size + 1, 0, none⟩ = some (.pointer (some qa)) := by go_simp
  have c3 : ((((w2.setCell ⟨w.heap.size, 0, none⟩ (.pointer (some pa))).setCell ⟨w.heap.size, 1, none⟩ (.int .i64 pn)).setCell ⟨w.heap.size + 1, 0, none⟩ (.pointer (some qa))).setCell ⟨w.heap.size + 1, 1, none⟩ (.int .i64 qn)).cell? ⟨w.heap.size + 1, 1, none⟩ = some (.int .i64 qn) := by go_simp
  have hb4 : Below w.heap.size w2 ((((w2.setCell ⟨w.heap.size, 0, none⟩ (.pointer (some pa))).setCell ⟨w.heap.size, 1, none⟩ (.int .i64 pn)).setCell ⟨w.heap.size + 1, 0, none⟩ (.pointer (some qa))).setCell ⟨w.heap.size + 1, 1, none⟩ (.int .i64 qn)) := ((((Below.refl _ _).setCell (by simp) _).setCell (by simp) _).setCell (by simp) _).setCell (by simp) _
  generalize (((w2.setCell ⟨w.heap.size, 0, none⟩ (.pointer (some pa))).setCell ⟨w.heap.size, 1, none⟩ (.int .i64 pn)).setCell ⟨w.heap.size + 1, 0, none⟩ (.pointer (some qa))).setCell ⟨w.heap.size + 1, 1, none⟩ (.int .i64 qn) = W at *
  have h1 := H2.out.1
  have h2 := H2.out.2
  have hmlt := HM.out.2.2.2.2.2.2.2.1
  have hsV : SavM m w V.drew := SavM.of_below HBV.out.1.drew
  have hs2 : SavM m w w2 := (hsV.trans h1.sav).trans h2.sav
  have hsW : SavM m w W := hs2.below hb4
  have hmW : MapIs W m E2 := h2.map.of_block (hb4.block m hmlt)
  have hgW : ∀ p : Pl, A p → GoodP W p := fun p hp => (HA.out p hp).sav ((HA.out p hp).ne HM.out.1) hsW
  have hroot : lk E2 (pa, pn) = none := (h2.keys _).2 h1.root
  have hp := hgW _ h1.goody
  have hq := hgW _ h2.goody
  have hcls : Cls A E2 := ⟨r, cl, h2.inv, h2.good⟩
  have HW := Lib.hid (And.intro hsW (And.intro hmW hcls))
  by_cases hab : pa = qa
  · subst hab
    have heq := run_ptr_same W pa 9998
    by_cases hnn : pn = qn
    · subst hnn
      clear h1 h2 hmlt hsV hs2 hsW hmW hgW hroot hp hq hcls hb4
      go_wp2_with fail
      go_ret
      exact ⟨false, rfl, E2, HW.out.2.1, HW.out.1, HW.out.2.2⟩
    · obtain ⟨w3, hpw, hmp, hsp, _⟩ := run_put_g m (pa, pn) (pa, qn) W E2 hmW hp (fun e he => hgW _ (h2.good e he).1)
      unfold plV at hpw
      have hj := h2.inv.join hroot h2.root (fun e => hnn (Prod.mk.inj e).2)
      have HE : Hid (JoinP A w m w3) := Lib.hid (by
        obtain ⟨r', cl', j3⟩ := hj
        refine ⟨_, hmp, hsW.trans hsp, r', cl', j3, fun e he => ?_⟩
        rcases st_mem _ _ _ _ he with rfl | he
        · exact ⟨h1.goody, h2.goody⟩
        · exact h2.good e he)
      have hbn : (pn == qn) = false := by rw [beq_eq_false_iff_ne]; exact hnn
      clear h1 h2 hmlt hsV hs2 hsW hmW hgW hroot hp hq hcls hb4 hmp hsp hj hnn
      go_wp2_with fail
      go_ret
      exact ⟨.inr rfl, HE.out⟩
  · have heq : (Op.equalIn 9999 60 (.pointer (some pa)) (.pointer (some qa))).run Tryd.prog W = .ok false W := by
      obtain ⟨c1, t1, h1⟩ := hp
      obtain ⟨c2, t2, h2⟩ := hq
      exact run_ptr_other W hab h1 h2 9998
    obtain ⟨w3, hpw, hmp, hsp, _⟩ := run_put_g m (pa, pn) (qa, qn) W E2 hmW hp (fun e he => hgW _ (h2.good e he).1)
    unfold plV at hpw
    have hj := h2.inv.join hroot h2.root (fun e => hab (Prod.mk.inj e).1)
    have HE : Hid (JoinP A w m w3) := Lib.hid (by
      obtain ⟨r', cl', j3⟩ := hj
      refine ⟨_, hmp, hsW.trans hsp, r', cl', j3, fun e he => ?_⟩
      rcases st_mem _ _ _ _ he with rfl | he
      · exact ⟨h1.goody, h2.goody⟩
      · exact h2.good e he)
    clear h1 h2 hmlt hsV hs2 hsW hmW hgW hroot hp hq hcls hb4 hmp hsp hj hab
    go_wp2_with fail
    go_ret
    exact ⟨.inr rfl, HE.out⟩

end Go.Proofs.YtgjnllkbfjeihaaDoor
