/-
  The contract of lean's Share.
-/
import Derived.Test.YtmamepmfbfinlaaGreatDoorLnB
import Derived.Maps.OwnOps
namespace Go.Proofs.YtmamepmfbfinlaaGreatDoor
open Go.RowKit Go.Maps Go.Proofs.Cpl

/-- A slice of texts that may be read. -/
def SsAt (w : World) (v : Value) (ks : List ByteArray) : Prop :=
  (v = .slice none 0 0 ∧ ks = []) ∨ ∃ g o cap, v = .slice (some ⟨g, o, none⟩) ks.length cap ∧ g < w.heap.size ∧ ∀ j s, ks[j]? = some s → w.cell? ⟨g, o + j, none⟩ = some (.string s)

theorem SsAt.below {w w' : World} {v : Value} {l : List ByteArray} (h : SsAt w v l) (hb : Below w.heap.size w w') : SsAt w' v l := by
  rcases h with h | ⟨g, o, cap, rfl, h3, h4⟩
  · exact .inl h
  · refine .inr ⟨g, o, cap, rfl, Nat.lt_of_lt_of_le h3 hb.size, fun j s hj => ?_⟩
    rw [hb.cell (p := ⟨g, o + j, none⟩) h3]
    exact h4 j s hj

theorem SsAt.shape {w : World} {v : Value} {l : List ByteArray} (h : SsAt w v l) : ∃ ad cap, v = .slice ad l.length cap := by
  rcases h with ⟨rfl, rfl⟩ | ⟨g, o, cap, rfl, _⟩
  · exact ⟨_, _, rfl⟩
  · exact ⟨_, _, rfl⟩

theorem SsAt.get {w : World} {ad : Option Addr} {n c : Nat} {l : List ByteArray} (h : SsAt w (.slice ad n c) l) {k : Nat} {x : ByteArray} (hx : l[k]? = some x) : ∃ g o, ad = some ⟨g, o, none⟩ ∧ w.cell? ⟨g, o + k, none⟩ = some (.string x) := by
  rcases h with ⟨_, rfl⟩ | ⟨g, o, cap, e, _, h4⟩
  · simp at hx
  · simp only [Value.slice.injEq] at e
    exact ⟨g, o, e.1, h4 k x hx⟩

theorem intKeyed : Keyed Tryz.prog 3 := int_keyed Tryz.underlying3

theorem zero_int (w : World) : (zeroValue 3).run Tryz.prog w = .ok (.int .i64 0) w := by kernel_rfl

/-- Block b holds how often each number stands in ps. -/
def Mp (w : World) (b : Nat) (ps : List Int) : Prop :=
  ∃ D : DataW Unit, w.ownsMap Tryz.prog 3 (plainElem Tryz.prog 3) b ps.length D ∧ IsMap D ∧ ∀ n : Int, D.atKey (.int .i64 n) (.lit (.int .i64 0)) = .lit (.int .i64 (cntI ps n))

theorem Mp.made (w : World) : Mp (w.alloc (.map #[] 0)) w.heap.size [] :=
  ⟨.map [], World.ownsMap_made _ _ _ _, ⟨_, rfl⟩, fun _ => rfl⟩

theorem Mp.lt {w : World} {b : Nat} {ps : List Int} (h : Mp w b ps) : b < w.heap.size := by
  obtain ⟨D, h, _⟩ := h
  exact h.lt

theorem Mp.below {w w' : World} {b : Nat} {ps : List Int} (h : Mp w b ps) (hb : Below w.heap.size w w') : Mp w' b ps := by
  have hlt := h.lt
  obtain ⟨D, ⟨es, clock, h0, F, hs, hD⟩, h2⟩ := h
  exact ⟨D, ⟨es, clock, (hb.block b hlt).trans h0, F, hs, hD⟩, h2⟩

theorem Mp.put {w' : World} {b : Nat} {ps : List Int} {D : DataW Unit} {p : Int} (hm : IsMap D) (hs : ∀ n : Int, D.atKey (.int .i64 n) (.lit (.int .i64 0)) = .lit (.int .i64 (cntI ps n)))
    (h : w'.ownsMap Tryz.prog 3 (plainElem Tryz.prog 3) b (ps.length + 1) (D.put (.int .i64 p) (.lit (.int .i64 ((cntI ps p : Int) + 1))))) : Mp w' b (ps ++ [p]) := by
  refine ⟨_, by rw [List.length_append]; exact h, ?_, fun n => ?_⟩
  · obtain ⟨es, rfl⟩ := hm
    exact ⟨_, rfl⟩
  · have hkl : WideAt.IsKeyLit (Lit.int .i64 p) := trivial
    rw [cntI_snoc]
    by_cases e : p = n
    · subst e
      rw [atKey_put_same hm hkl, if_pos rfl]
      congr 2
    · rw [atKey_put_other (by simpa using fun h => e h.symm), hs, if_neg e, Nat.add_zero]

theorem wf_small {n : Int} (h : -1000000 ≤ n ∧ n ≤ 1000000) : (Lit.int .i64 n).wf = true := by
  have e1 : IntKind.i64.min = -9223372036854775808 := by decide
  have e2 : IntKind.i64.max = 9223372036854775807 := by decide
  simp only [Lit.wf, e1, e2, Bool.and_eq_true, decide_eq_true_eq]
  omega

/-- How many of those picked each has. -/
def shI (l ps : List Int) : List Int := l.map fun x => (cntI ps x : Int)

theorem shI_len (l ps : List Int) : (shI l ps).length = l.length := by unfold shI; simp

theorem shI_snoc (l : List Int) (x : Int) (ps : List Int) : shI (l ++ [x]) ps = shI l ps ++ [(cntI ps x : Int)] := by unfold shI; simp

def pksI (l : List Int) (nw : Int) (ks : List ByteArray) : List Int := ks.map fun s => pickI (mkI s) l nw

theorem pksI_snoc (l : List Int) (nw : Int) (ks : List ByteArray) (s : ByteArray) : pksI l nw (ks ++ [s]) = pksI l nw ks ++ [pickI (mkI s) l nw] := by unfold pksI; simp

theorem pksI_len (l : List Int) (nw : Int) (ks : List ByteArray) : (pksI l nw ks).length = ks.length := by unfold pksI; simp

theorem takes_more {α : Type} {l : List α} {k : Nat} {x : α} (h : l[k]? = some x) : l.take (k + 1) = l.take k ++ [x] := by
  rw [List.take_add_one, h]
  rfl

theorem pick_in (z : Int × Int) (l : List Int) (nw : Int) : 0 ≤ pickI z l nw ∧ pickI z l nw ≤ 5 := by
  by_cases h : choI l nw = []
  · have : pickI z l nw = 0 := by unfold pickI; rw [h]; rfl
    omega
  · have := choI_in l nw _ (pk_mem (wtI z) (choI l nw) h (cho_le l nw))
    unfold pickI
    omega

set_option maxRecDepth 100000 in
set_option maxHeartbeats 8000000 in
theorem share_p (e nw : Int) (v u : Value) (l : List Int) (ks : List ByteArray) (w : World) (h : IsAt w v l) (hn : l.length ≤ 1000) (hc : choI l nw ≠ [] ∨ l = []) (hl : ∀ x ∈ l, 1 ≤ x ∧ x ≤ 5) (hu : SsAt w u ks) (hk : ks.length ≤ 1000) (hs : ∀ s ∈ ks, s.size ≤ maxLen) :
    Calls Tryz.prog 17 #[.agg #[.int .i64 e, v, .int .i64 nw], u] w fun r w' => ∃ ad cap, r = .returned (.slice ad l.length cap) ∧ IOwn w' w.heap.size (.slice ad l.length cap) (shI l (pksI l nw ks)) ∧ Below w.heap.size w w' := by
  obtain ⟨ad, cap, rfl, hcap⟩ := h.shape
  obtain ⟨au, cu, rfl⟩ := hu.shape
  obtain ⟨qs, hqs⟩ : ∃ qs, pksI l nw ks = qs := ⟨_, rfl⟩
  rw [hqs]
  have HQS := Lib.hid hqs
  clear hqs
  obtain ⟨i0, hi, hz0, hz1, hz2⟩ := int_info
  have hmm := @run_makeMap Tryz.prog
  have HB0 := Lib.hid (ro_below w e (.slice ad l.length cap) nw 24)
  have h1 := RC.new w e ad l.length cap nw 24
  have HV := Lib.hid (h.below HB0.out)
  have HU := Lib.hid (hu.below HB0.out)
  have HCH := Lib.hid (choice_p e nw _ l _ HV.out hn hc)
  have HL := Lib.hid hl
  have HSS := Lib.hid hs
  have HCL := Lib.hid (choI_in l nw)
  have HC5 := Lib.hid (cho_len l nw)
  clear h hc hl hu hs hcap
  go_enter Tryz.func17, Tryz.ntmps17
  go_wp2_with fail
  generalize (w.alloc (.cells #[.int .i64 e, .slice ad l.length cap, .int .i64 nw] 24)) = W at *
  have HR : Hid (RC W w.heap.size e (.slice ad l.length cap) nw) := Lib.hid h1
  obtain ⟨⟨c0, c1, c2⟩, _⟩ := h1
  go_wp2_with fail
  refine HCH.out.mono ?_
  rintro _ w2 ⟨a2, k2, rfl, ho2, hb2⟩
  clear c0 c1 c2 HCH
  have H2 : Hid (IsAt w2 (.slice a2 (choI l nw).length k2) (choI l nw) ∧ RC w2 w.heap.size e (.slice ad l.length cap) nw ∧ IsAt w2 (.slice ad l.length cap) l ∧ SsAt w2 (.slice au ks.length cu) ks ∧ Below w.heap.size w w2) := Lib.hid ⟨ho2.at, HR.out.kept (hb2.block _ HR.out.lt), HV.out.below hb2, HU.out.below hb2, HB0.out.trans (hb2.mono HB0.out.size)⟩
  clear ho2 hb2 HR HV HU HB0
  generalize hC : choI l nw = C at *
  have HCC := Lib.hid hC
  clear hC
  go_wp2_with fail
  go_loopw [17] (fun v17 wr => ∃ k : Nat, k ≤ ks.length ∧ v17 = .int .i64 k ∧ Hid (Mp wr w2.heap.size (pksI l nw (ks.take k)) ∧ Below w2.heap.size w2 wr ∧ w2.heap.size < wr.heap.size)) (fun v17 _ => ks.length - (intOf v17).toNat)
  case atStart => exact ⟨0, by omega, rfl, Lib.hid ⟨Mp.made w2, (Below.refl _ _).alloc (Nat.le_refl _) _, by simp⟩⟩
  case round =>
    obtain ⟨k, hkk, rfl, HI⟩ := hrel
    by_cases hlt : k < ks.length
    · have hltz : (k : Int) < (ks.length : Int) := by omega
      obtain ⟨s, hs⟩ : ∃ s, ks[k]? = some s := ⟨_, List.getElem?_eq_getElem hlt⟩
      obtain ⟨g, o, rfl, x0⟩ := (H2.out.2.2.2.1.below HI.out.2.1).get hs
      have HT : Hid (pksI l nw (ks.take (k + 1)) = pksI l nw (ks.take k) ++ [pickI (mkI s) l nw]) := Lib.hid (by rw [takes_more hs, pksI_snoc])
      have HP := lpick_p _ C s (HSS.out s (List.mem_of_getElem? hs)) (by have := HC5.out; omega) HCL.out wr (H2.out.1.below HI.out.2.1)
      rw [show pkI (wtI (mkI s)) C = pickI (mkI s) l nw by unfold pickI; rw [HCC.out]] at HP
      have HPI := Lib.hid (pick_in (mkI s) l nw)
      have HLN : Hid ((pksI l nw (ks.take k)).length ≤ 1000) := Lib.hid (by rw [pksI_len, List.length_take]; omega)
      generalize pickI (mkI s) l nw = p at *
      generalize pksI l nw (ks.take k) = ps at *
      replace HP := Lib.hid HP
      have hkey : keyOf Tryz.prog 3 (.int .i64 p) = some (.int .i64 p) := keyOf_int_mk Tryz.underlying3 (wf_small (by have := HPI.out; omega))
      clear hs
      go_wp2_with fail
      refine HP.out.mono ?_
      rintro _ w3 ⟨rfl, hb3⟩
      have H3 : Hid (Mp w3 w2.heap.size ps ∧ Below w2.heap.size w2 w3 ∧ w2.heap.size < w3.heap.size) := Lib.hid ⟨HI.out.1.below hb3, HI.out.2.1.trans (hb3.mono HI.out.2.1.size), Nat.lt_of_lt_of_le HI.out.2.2 hb3.size⟩
      clear hb3 x0
      obtain ⟨D, hown, hmap, hspec⟩ := H3.out.1
      have HOWN := Lib.hid hown
      have HMD := Lib.hid (And.intro hmap hspec)
      have HCT : Hid (∀ c : Int, D.atKey (.int .i64 p) (.lit (.int .i64 0)) = .lit (.int .i64 c) → c = (cntI ps p : Int)) := Lib.hid (fun c hc => by
        rw [hspec p] at hc
        simp only [DataW.lit.injEq, Lit.int.injEq, true_and] at hc
        exact hc.symm)
      have hm1000 : cntI ps p ≤ 1000 := Nat.le_trans (cntI_le ps p) HLN.out
      have hps : ps.length ≤ 1000 := HLN.out
      have HPUT : Hid (∀ w4 : World, w4.ownsMap Tryz.prog 3 (plainElem Tryz.prog 3) w2.heap.size (ps.length + 1) (D.put (.int .i64 p) (.lit (.int .i64 ((cntI ps p : Int) + 1)))) → Mp w4 w2.heap.size (ps ++ [p])) := Lib.hid (fun w4 h4 => Mp.put hmap hspec h4)
      clear hown hmap hspec
      generalize cntI ps p = m at *
      have hwm : IntKind.i64.wrap ((m : Int) + 1) = (m : Int) + 1 := IntWalk.i64_in _ (by omega)
      have HWF : Hid ((Lit.int .i64 ((m : Int) + 1)).wf = true) := Lib.hid (wf_small (by omega))
      go_wp2_with (first
        | (at_lookup; refine wpList_lookup_own_int _ rfl _ _ 50 rfl 3 3 .i64 intKeyed Tryz.underlying50 Tryz.underlying3 (zero_int _) w2.heap.size _ _ rfl HOWN.out _ _ rfl hkey ?_; intro c hat hwc; obtain rfl := HCT.out c hat; clear hat hwc)
        | (at_mapUpdate; refine wpList_mapUpdate_own _ rfl _ _ _ 50 rfl 3 3 intKeyed Tryz.underlying50 _ w2.heap.size _ _ rfl HOWN.out (by unfold maxLen; omega) _ _ _ rfl rfl hkey _ [] (plainElem_int Tryz.underlying3 HWF.out) ?_; intro w4 hown4 hgrow4))
      have HE : Hid (Mp w4 w2.heap.size (pksI l nw (ks.take (k + 1))) ∧ Below w2.heap.size w2 w4 ∧ w2.heap.size < w4.heap.size) := Lib.hid ⟨by rw [HT.out]; exact HPUT.out w4 hown4, H3.out.2.1.grown hgrow4 (Nat.le_of_lt H3.out.2.2) (fun j hj => by cases hj; exact Nat.le_refl _), Nat.lt_of_lt_of_le H3.out.2.2 hgrow4.size⟩
      clear hown4 hgrow4
      go_wp2_with fail
      go_roundw
      case rel => exact ⟨k + 1, by omega, by go_num, HE⟩
      case measure => simp [intOf]; omega
    · obtain rfl : k = ks.length := by omega
      obtain ⟨W3, hW3⟩ : ∃ W3, W3 = wr := ⟨_, rfl⟩
      subst hW3
      have HM : Hid (Mp W3 w2.heap.size qs ∧ RC W3 w.heap.size e (.slice ad l.length cap) nw ∧ IsAt W3 (.slice ad l.length cap) l ∧ Below w.heap.size w W3) := Lib.hid ⟨by have := HI.out.1; rwa [List.take_length, HQS.out] at this, H2.out.2.1.kept (HI.out.2.1.block _ H2.out.2.1.lt), H2.out.2.2.1.below HI.out.2.1, H2.out.2.2.2.2.trans (HI.out.2.1.mono H2.out.2.2.2.2.size)⟩
      clear HI H2 HCC HCL HC5 HSS
      obtain ⟨⟨c0, c1, c2⟩, _⟩ := HM.out.2.1
      go_wp2_with fail
      clear c0 c1 c2
      go_loopw [9, 31] (fun v9 v31 wr => ∃ (k : Nat) (la : Option Addr) (lc : Nat), k ≤ l.length ∧ v9 = .slice la k lc ∧ v31 = .int .i64 k ∧ Hid (IOwn wr W3.heap.size (.slice la k lc) (shI (l.take k) qs) ∧ Below W3.heap.size W3 wr)) (fun _ v31 _ => l.length - (intOf v31).toNat)
      case atStart => exact ⟨0, none, 0, by omega, rfl, rfl, Lib.hid ⟨IOwn.nil _ _, Below.refl _ _⟩⟩
      case round =>
        obtain ⟨k, la, lc, hkl, rfl, rfl, HJ⟩ := hrel
        by_cases hlt : k < l.length
        · have hltz : (k : Int) < (l.length : Int) := by omega
          obtain ⟨x, hx⟩ : ∃ x, l[k]? = some x := ⟨_, List.getElem?_eq_getElem hlt⟩
          obtain ⟨g, o, rfl, x0⟩ := (HM.out.2.2.1.below HJ.out.2).get hx
          have HX := Lib.hid (HL.out x (List.mem_of_getElem? hx))
          have HT : Hid (shI (l.take (k + 1)) qs = shI (l.take k) qs ++ [(cntI qs x : Int)]) := Lib.hid (by rw [takes_more hx, shI_snoc])
          have HSL : Hid ((shI (l.take k) qs).length = k) := Lib.hid (by rw [shI_len, List.length_take]; omega)
          generalize shI (l.take k) qs = S at *
          have hkey : keyOf Tryz.prog 3 (.int .i64 x) = some (.int .i64 x) := keyOf_int_mk Tryz.underlying3 (wf_small (by have := HX.out; omega))
          clear hx
          obtain ⟨D, hown, hmap, hspec⟩ := HM.out.1.below HJ.out.2
          have HOWN := Lib.hid hown
          have HCT : Hid (∀ c : Int, D.atKey (.int .i64 x) (.lit (.int .i64 0)) = .lit (.int .i64 c) → c = (cntI qs x : Int)) := Lib.hid (fun c hc => by
            rw [hspec x] at hc
            simp only [DataW.lit.injEq, Lit.int.injEq, true_and] at hc
            exact hc.symm)
          clear hown hmap hspec
          generalize cntI qs x = m at *
          have hk1000 : k ≤ 1000 := by omega
          have HOW : Hid ((wr.alloc (.cells #[.int .i64 (m : Int)] 3)).ownsRow W3.heap.size 3 1 (.slice la k lc) k (icells S)) := Lib.hid (by
            have h1 := HJ.out.1.below (w' := wr.alloc (.cells #[.int .i64 (m : Int)] 3)) ((Below.refl _ _).alloc (Nat.le_refl _) _)
            unfold IOwn at h1
            rw [HSL.out] at h1
            exact h1)
          have HGE : Hid (W3.heap.size ≤ (wr.alloc (.cells #[.int .i64 (m : Int)] 3)).heap.size) := Lib.hid (by have := HJ.out.2.size; simp; omega)
          have HNW := Lib.hid (int_new wr (m : Int))
          go_wp2_with (first
            | (at_lookup; refine wpList_lookup_own_int _ rfl _ _ 50 rfl 3 3 .i64 intKeyed Tryz.underlying50 Tryz.underlying3 (zero_int _) w2.heap.size _ _ rfl HOWN.out _ _ rfl hkey ?_; intro c hat hwc; obtain rfl := HCT.out c hat; clear hat hwc)
            | (at_builtin; refine wpList_append_own_at _ rfl (.tmp 35) (.tmp 39) 22 rfl W3.heap.size 3 i0 _ 1 8 Tryz.underlying22 hi hz0 hz1 hz2 rfl (by decide) (.slice la k lc) k (icells S) rfl HOW.out ⟨wr.heap.size, 0, none⟩ 1 1 (icells [(m : Int)]) rfl rfl HNW.out (icells_one [(m : Int)]) (by unfold maxLen; omega) (by omega) HGE.out ?_))
          intro v' w4 hown4 hgrow4 _ hloc4
          have HE : Hid (∃ la4 lc4, v' = .slice la4 (k + 1) lc4 ∧ IOwn w4 W3.heap.size (.slice la4 (k + 1) lc4) (shI (l.take (k + 1)) qs) ∧ Below W3.heap.size W3 w4) := Lib.hid (by
            have h0 := HJ.out.1
            rw [HT.out]
            have hkk := HSL.out
            subst hkk
            obtain ⟨la4, lc4, rfl, ho4, hb4⟩ := h0.step HJ.out.2.size hown4 hgrow4
            rw [List.length_append, List.length_singleton] at ho4 ⊢
            exact ⟨la4, lc4, rfl, ho4, HJ.out.2.trans hb4⟩)
          clear hown4 hgrow4 hloc4 HOW HGE HNW x0
          obtain ⟨la4, lc4, rfl, hE⟩ := HE.out
          replace HE := Lib.hid hE
          clear hE
          go_wp2_with fail
          go_roundw
          case rel => exact ⟨k + 1, la4, lc4, by omega, by first | rfl | trivial, by go_num, HE⟩
          case measure => simp [intOf]; omega
        · obtain rfl : k = l.length := by omega
          have HF : Hid (IOwn wr w.heap.size (.slice la l.length lc) (shI l qs) ∧ Below w.heap.size w wr) := Lib.hid ⟨by
            have := HJ.out.1.mono HM.out.2.2.2.size
            rwa [List.take_length] at this, HM.out.2.2.2.trans (HJ.out.2.mono HM.out.2.2.2.size)⟩
          go_wp2_with fail
          go_ret
          exact ⟨_, _, rfl, HF.out.1, HF.out.2⟩

end Go.Proofs.YtmamepmfbfinlaaGreatDoor
