/-
  RosterOwn answers true.
-/
import Derived.Test.YtlemkpcpeamojaaRosK
namespace Go.Proofs.Ytlemkpcpeamojaa
open Go.RowKit

/-- A row of the call's own in which one number is written. -/
theorem iown_set {w : World} {B g n cap : Nat} {l : List Int} (h : IOwn w B (.slice (some ⟨g, 0, none⟩) n cap) l) (k : Nat) (z : Int) : IOwn (w.setCell ⟨g, k, none⟩ (.int .i64 z)) B (.slice (some ⟨g, 0, none⟩) n cap) (l.set k z) := by
  obtain ⟨h1, h2⟩ := h
  have hic : icells (l.set k z) = (icells l).set k (.int .i64 z) := by unfold icells; rw [List.map_set]
  unfold IOwn
  rw [hic, List.length_set]
  refine ⟨by rw [List.length_set]; exact h1, ?_⟩
  rcases h2 with ⟨h2, _⟩ | ⟨g', cap', cur, hv, hg, hh, hn, hm, hs, ht⟩
  · cases h2
  · cases hv
    refine .inr ⟨g, cap, cur.setIfInBounds k (.int .i64 z), rfl, hg, ?_, hn, hm, by simpa using hs, ?_⟩
    · have hlt := (Array.getElem?_eq_some_iff.1 hh).1
      have h' : w.heap[g] = .cells cur 3 (0, 0) := by simpa [Array.getElem?_eq_getElem hlt] using hh
      show (w.heap.modify g _)[g]? = _
      rw [Array.getElem?_eq_getElem (by simpa using hlt), Array.getElem_modify_self, h']
      rfl
    · rw [Array.toList_setIfInBounds, List.take_set, ht]

theorem iown_free {w : World} {B g n cap : Nat} {l : List Int} (h : IOwn w B (.slice (some ⟨g, 0, none⟩) n cap) l) (o : Nat) : w.frozen? ⟨g, o, none⟩ = false := by
  rcases h.2 with ⟨h2, _⟩ | ⟨g', cap', cur, hv, _, hh, _⟩
  · cases h2
  · cases hv
    simp [World.frozen?, hh]

theorem iown_at0 {w : World} {B n cap : Nat} {ad : Option Addr} {l : List Int} (h : IOwn w B (.slice ad n cap) l) (hn : 0 < n) : ∃ g, ad = some ⟨g, 0, none⟩ := by
  rcases h.2 with ⟨h2, h0⟩ | ⟨g', cap', cur, hv, _⟩
  · simp only [Value.slice.injEq] at h2
    omega
  · simp only [Value.slice.injEq] at hv
    exact ⟨g', hv.1⟩

/-- All but one row is as it was. -/
def KeepB (Z W : World) (v : Value) : Prop := W.heap.size = Z.heap.size ∧ ∀ g, v.ownBlock ≠ some g → W.heap[g]? = Z.heap[g]?

theorem KeepB.refl (Z : World) (v : Value) : KeepB Z Z v := ⟨rfl, fun _ _ => rfl⟩

theorem KeepB.set {Z W : World} {g n cap : Nat} (h : KeepB Z W (.slice (some ⟨g, 0, none⟩) n cap)) (k : Nat) (z : Value) : KeepB Z (W.setCell ⟨g, k, none⟩ z) (.slice (some ⟨g, 0, none⟩) n cap) := by
  refine ⟨by rw [← h.1]; simp, fun j hj => ?_⟩
  have hne : j ≠ g := fun e => hj (by rw [e]; rfl)
  rw [Below.heap_setCell _ _ _ _ (by simpa using hne)]
  exact h.2 j hj

set_option maxRecDepth 100000 in
set_option maxHeartbeats 8000000 in
theorem rosterOwn_walk (e nw : Int) (v : Value) (l : List Int) (n : Int) (w : World) (h : IsAt w v l) (hn : l.length ≤ 9223372036854775807) :
    Calls Try.prog 7 #[.agg #[.int .i64 e, v, .int .i64 nw], .int .i64 n] w fun r w' => r = .returned (.bool true) ∧ Below w.heap.size w w' := by
  obtain ⟨ad, cap, rfl, _⟩ := h.shape
  have HB0 := Lib.hid (ro_below w e (.slice ad l.length cap) nw 24)
  have HC0 := Lib.hid (cb_new w ⟨e, l, nw⟩ ad cap h)
  have hL7 : (l.take 7).length ≤ 7 := by rw [List.length_take]; omega
  clear h
  go_enter Try.func7, Try.ntmps7
  go_wp2_with fail
  generalize w.alloc (.cells #[.int .i64 e, .slice ad l.length cap, .int .i64 nw] 24) = W at *
  refine (begun9_p W).mono ?_
  rintro _ W1 ⟨rfl, hb⟩
  replace HC0 := Lib.hid (HC0.out.below hb)
  replace HB0 := Lib.hid (HB0.out.trans (hb.mono HB0.out.size))
  clear hb
  obtain ⟨⟨p0, p1, p2⟩, _⟩ := HC0.out.c
  dsimp only at p0 p1 p2
  go_wp2_with fail
  clear p0 p1 p2
  refine (lroster_p e nw _ l W1 HC0.out.v hn).mono ?_
  rintro _ W2 ⟨a2, c2, rfl, ho, hy⟩
  generalize l.take 7 = L at *
  have HP := Lib.hid (box_put HC0.out HB0.out ho hy (e := e) (nw := nw))
  have HC2 := Lib.hid (HC0.out.below hy)
  clear ho hy HC0 HB0
  obtain ⟨⟨p0, p1, p2⟩, f0, f1, f2⟩ := HC2.out.c
  dsimp only at p0 p1 p2
  go_wp2_with fail
  clear p0 p1 p2 f0 f1 f2 HC2
  generalize ((W2.setCell ⟨w.heap.size, 0, none⟩ (.int .i64 e)).setCell ⟨w.heap.size, 1, none⟩ (.slice a2 L.length c2)).setCell ⟨w.heap.size, 2, none⟩ (.int .i64 nw) = V at *
  have HC := Lib.hid HP.out.1
  have HO := Lib.hid HP.out.2.1
  have HB := Lib.hid HP.out.2.2
  clear HP
  obtain ⟨⟨p0, p1, p2⟩, _⟩ := HC.out.c
  dsimp only at p0 p1 p2
  have HLR := lroster_p e nw _ L V HC.out.v (by omega)
  rw [List.take_of_length_le hL7] at HLR
  have HLR := Lib.hid HLR
  go_wp2_with fail
  refine HLR.out.mono ?_
  rintro _ W3 ⟨a3, c3, rfl, ho, hy⟩
  have hb : Below V.heap.size V (W3.alloc (.cells #[.int .i64 e, .slice a3 L.length c3, .int .i64 nw] 24)) := hy.alloc hy.size _
  have HC1 := Lib.hid (HC.out.below hb)
  have HB1 := Lib.hid (HB.out.trans (hb.mono HB.out.size))
  have HW1 : Hid (CB (W3.alloc (.cells #[.int .i64 e, .slice a3 L.length c3, .int .i64 nw] 24)) W3.heap.size ⟨e, L, nw⟩ a3 L.length c3) := Lib.hid (cb_new W3 ⟨e, L, nw⟩ a3 c3 ho.at)
  have HN1 : Hid (w.heap.size < W3.heap.size ∧ (W3.alloc (.cells #[.int .i64 e, .slice a3 L.length c3, .int .i64 nw] 24)).heap.size = W3.heap.size + 1 ∧ (∀ j, (Value.slice a2 L.length c2).ownBlock = some j → j < W3.heap.size) ∧ (∀ j, (Value.slice a3 L.length c3).ownBlock = some j → j < W3.heap.size)) := Lib.hid ⟨Nat.lt_of_lt_of_le HC.out.c.lt hy.size, by simp, fun j hj => Nat.lt_of_lt_of_le (HO.out.lt hj).2 hy.size, fun j hj => (ho.lt hj).2⟩
  clear hy hb ho HLR p0 p1 p2 HC HO HB
  obtain ⟨⟨p0, p1, p2⟩, _⟩ := HC1.out.c
  dsimp only at p0 p1 p2
  go_wp2_with fail
  generalize (W3.alloc (.cells #[.int .i64 e, .slice a3 L.length c3, .int .i64 nw] 24)) = V3 at *
  generalize W3.heap.size = S3 at *
  refine (add_p e nw n _ L V3 HC1.out.v (by omega)).mono ?_
  have hal := addR_len ⟨e, L, nw⟩ n
  dsimp only at hal
  generalize addR ⟨e, L, nw⟩ n = ra at *
  obtain ⟨⟨ea, la, na⟩, oka⟩ := ra
  rintro _ W4 ⟨aa, ca, rfl, ho, hy⟩
  dsimp only at ho hal ⊢
  obtain ⟨ma, hma⟩ : ∃ m, la.length = m := ⟨_, rfl⟩
  rw [hma] at ho hal ⊢
  have hma8 : ma ≤ 8 := by omega
  clear hal
  have hb : Below V3.heap.size V3 (W4.alloc (.cells #[.int .i64 ea, .slice aa ma ca, .int .i64 na] 24)) := hy.alloc hy.size _
  have HC2 := Lib.hid (HC1.out.below hb)
  have HB2 := Lib.hid (HB1.out.trans (hb.mono HB1.out.size))
  have HW2 := Lib.hid (HW1.out.below hb)
  have HA2 : Hid (RC (W4.alloc (.cells #[.int .i64 ea, .slice aa ma ca, .int .i64 na] 24)) W4.heap.size ea (.slice aa ma ca) na) := Lib.hid (RC.new W4 ea aa ma ca na _)
  have HOA2 : Hid (IOwn (W4.alloc (.cells #[.int .i64 ea, .slice aa ma ca, .int .i64 na] 24)) V3.heap.size (.slice aa ma ca) la) := Lib.hid (ho.below ((Below.refl _ _).alloc (Nat.le_refl _) _))
  have HN2 : Hid (V3.heap.size ≤ W4.heap.size ∧ (W4.alloc (.cells #[.int .i64 ea, .slice aa ma ca, .int .i64 na] 24)).heap.size = W4.heap.size + 1 ∧ (∀ j, (Value.slice aa ma ca).ownBlock = some j → V3.heap.size ≤ j ∧ j < W4.heap.size)) := Lib.hid ⟨hy.size, by simp, fun j hj => ho.lt hj⟩
  have HMA := Lib.hid hma
  clear hy hb ho p0 p1 p2 HC1 HB1 HW1 hma
  obtain ⟨⟨p0, p1, p2⟩, _⟩ := HC2.out.c
  dsimp only at p0 p1 p2
  go_wp2_with fail
  generalize (W4.alloc (.cells #[.int .i64 ea, .slice aa ma ca, .int .i64 na] 24)) = V4 at *
  generalize W4.heap.size = S4 at *
  refine (drop_p e nw n _ L V4 HC2.out.v (by omega)).mono ?_
  have hbl := dropR_len ⟨e, L, nw⟩ n
  dsimp only at hbl
  generalize dropR ⟨e, L, nw⟩ n = rb at *
  obtain ⟨⟨eb, lb, nb⟩, okb⟩ := rb
  rintro _ W5 ⟨ab, cb, rfl, ho, hy⟩
  dsimp only at ho hbl ⊢
  obtain ⟨mb, hmb⟩ : ∃ m, lb.length = m := ⟨_, rfl⟩
  rw [hmb] at ho hbl ⊢
  have hmb8 : mb ≤ 8 := by omega
  clear hbl
  have hb : Below V4.heap.size V4 (W5.alloc (.cells #[.int .i64 eb, .slice ab mb cb, .int .i64 nb] 24)) := hy.alloc hy.size _
  have HC3 := Lib.hid (HC2.out.below hb)
  have HB3 := Lib.hid (HB2.out.trans (hb.mono HB2.out.size))
  have HW3 := Lib.hid (HW2.out.below hb)
  have HA3 := Lib.hid (HA2.out.below hb)
  have HOA3 := Lib.hid (HOA2.out.below hb)
  have HD3 : Hid (RC (W5.alloc (.cells #[.int .i64 eb, .slice ab mb cb, .int .i64 nb] 24)) W5.heap.size eb (.slice ab mb cb) nb) := Lib.hid (RC.new W5 eb ab mb cb nb _)
  have HOD3 : Hid (IOwn (W5.alloc (.cells #[.int .i64 eb, .slice ab mb cb, .int .i64 nb] 24)) V4.heap.size (.slice ab mb cb) lb) := Lib.hid (ho.below ((Below.refl _ _).alloc (Nat.le_refl _) _))
  have HN3 : Hid (V4.heap.size ≤ W5.heap.size ∧ (∀ j, (Value.slice ab mb cb).ownBlock = some j → V4.heap.size ≤ j ∧ j < W5.heap.size)) := Lib.hid ⟨hy.size, fun j hj => ho.lt hj⟩
  have HMB := Lib.hid hmb
  clear hy hb ho p0 p1 p2 HC2 HB2 HW2 HA2 HOA2 hmb
  obtain ⟨⟨p0, p1, p2⟩, _⟩ := HA3.out
  go_wp2_with fail
  generalize (W5.alloc (.cells #[.int .i64 eb, .slice ab mb cb, .int .i64 nb] 24)) = V5 at *
  generalize W5.heap.size = S5 at *
  clear p0 p1 p2
  go_loopw [11, 35] (fun _ iv wr => ∃ (k : Nat) (l' : List Int), iv = .int .i64 k ∧ k ≤ ma ∧ l'.length = ma ∧ Hid (IOwn wr V3.heap.size (.slice aa ma ca) l') ∧ Hid (KeepB V5 wr (.slice aa ma ca)) ∧ Hid (Below w.heap.size w wr)) (fun _ iv _ => ma - (intOf iv).toNat)
  case atStart => exact ⟨0, la, rfl, Nat.zero_le _, HMA.out, HOA3, Lib.hid (KeepB.refl _ _), HB3⟩
  case round =>
    obtain ⟨k, l', rfl, hk, hl', HOW, HKW, HBW⟩ := hrel
    have hA : RC wr S4 ea (.slice aa ma ca) na := HA3.out.kept (HKW.out.2 S4 (fun e => by have := (HN2.out.2.2 S4 e).2; omega))
    obtain ⟨⟨p0, p1, p2⟩, _⟩ := hA
    by_cases hlt : k < ma
    · have hltz : (k : Int) < (ma : Int) := by omega
      obtain ⟨g, rfl⟩ := iown_at0 HOW.out (by omega)
      obtain ⟨x, hx⟩ : ∃ x, l'[k]? = some x := ⟨_, List.getElem?_eq_getElem (by omega)⟩
      have x0 : wr.cell? ⟨g, k, none⟩ = some (.int .i64 x) := by
        obtain ⟨g', o', e1, e2⟩ := HOW.out.at.get hx
        simp only [Option.some.injEq, Addr.mk.injEq, and_true] at e1
        obtain ⟨rfl, rfl⟩ := e1
        simpa using e2
      have fx := iown_free HOW.out k
      have HO6 := Lib.hid (iown_set HOW.out k 9)
      have HK6 := Lib.hid (HKW.out.set k (.int .i64 9))
      have HB6 := Lib.hid (HBW.out.setCell (p := ⟨g, k, none⟩) (by have := (HN2.out.2.2 g rfl).1; have := HN1.out; show w.heap.size ≤ g; omega) (.int .i64 9))
      have hll : (l'.set k 9).length = ma := by rw [List.length_set]; exact hl'
      have HL6 := Lib.hid hll
      generalize l'.set k 9 = l6 at *
      clear hx hll hl'
      go_wp2_with fail
      go_roundw
      case rel => exact ⟨k + 1, l6, by go_num, by omega, HL6.out, HO6, HK6, HB6⟩
      case measure => simp [intOf]; omega
    · have hltz : ¬ (k : Int) < (ma : Int) := by omega
      have hq2 : V4.heap.size = S4 + 1 := HN2.out.2.1
      have hD : RC wr S5 eb (.slice ab mb cb) nb := HD3.out.kept (HKW.out.2 S5 (fun e => by have h1 := (HN2.out.2.2 S5 e).2; have h2 := HN3.out.1; omega))
      have HD7 := Lib.hid hD
      have HOD7 : Hid (IOwn wr V4.heap.size (.slice ab mb cb) lb) := Lib.hid (HOD3.out.kept (fun j hj => HKW.out.2 j (fun e => by have h1 := (HN2.out.2.2 j e).2; have h2 := (HN3.out.2 j hj).1; omega)))
      have hq1 : V3.heap.size = S3 + 1 := HN1.out.2.1
      have HC7 : Hid (CB wr w.heap.size ⟨e, L, nw⟩ a2 L.length c2) := Lib.hid ⟨HC3.out.c.kept (HKW.out.2 _ (fun e => by have h1 := (HN2.out.2.2 _ e).1; have h2 := HN1.out.1; omega)), HC3.out.v.kept (by rw [HKW.out.1]; exact Nat.le_refl _) (fun j hj => HKW.out.2 j (fun e => by have h1 := (HN2.out.2.2 j e).1; have h2 := HN1.out.2.2.1 j hj; omega))⟩
      have HW7 : Hid (CB wr S3 ⟨e, L, nw⟩ a3 L.length c3) := Lib.hid ⟨HW3.out.c.kept (HKW.out.2 _ (fun e => by have h1 := (HN2.out.2.2 _ e).1; omega)), HW3.out.v.kept (by rw [HKW.out.1]; exact Nat.le_refl _) (fun j hj => HKW.out.2 j (fun e => by have h1 := (HN2.out.2.2 j e).1; have h2 := HN1.out.2.2.2 j hj; omega))⟩
      have HB7 := Lib.hid HBW.out
      clear HC3 HW3 HOD3 HA3 HD3 HOA3 HB3 HOW HKW HBW hD p0 p1 p2 hl'
      obtain ⟨U, hU⟩ : ∃ U, U = wr := ⟨_, rfl⟩
      subst hU
      obtain ⟨⟨p0, p1, p2⟩, _⟩ := HD7.out
      go_wp2_with fail
      clear p0 p1 p2
      go_loopw [12, 46] (fun _ iv wr => ∃ (k : Nat) (l' : List Int), iv = .int .i64 k ∧ k ≤ mb ∧ l'.length = mb ∧ Hid (IOwn wr V4.heap.size (.slice ab mb cb) l') ∧ Hid (KeepB U wr (.slice ab mb cb)) ∧ Hid (Below w.heap.size w wr)) (fun _ iv _ => mb - (intOf iv).toNat)
      case atStart => exact ⟨0, lb, rfl, Nat.zero_le _, HMB.out, HOD7, Lib.hid (KeepB.refl _ _), HB7⟩
      case round =>
        obtain ⟨k2, l', rfl, hk2, hl', HOW, HKW, HBW⟩ := hrel
        have hA : RC wr S5 eb (.slice ab mb cb) nb := HD7.out.kept (HKW.out.2 S5 (fun e => by have := (HN3.out.2 S5 e).2; omega))
        obtain ⟨⟨p0, p1, p2⟩, _⟩ := hA
        by_cases hlt2 : k2 < mb
        · have hltz : (k2 : Int) < (mb : Int) := by omega
          obtain ⟨g, rfl⟩ := iown_at0 HOW.out (by omega)
          obtain ⟨x, hx⟩ : ∃ x, l'[k2]? = some x := ⟨_, List.getElem?_eq_getElem (by omega)⟩
          have x0 : wr.cell? ⟨g, k2, none⟩ = some (.int .i64 x) := by
            obtain ⟨g', o', e1, e2⟩ := HOW.out.at.get hx
            simp only [Option.some.injEq, Addr.mk.injEq, and_true] at e1
            obtain ⟨rfl, rfl⟩ := e1
            simpa using e2
          have fx := iown_free HOW.out k2
          have HO6 := Lib.hid (iown_set HOW.out k2 9)
          have HK6 := Lib.hid (HKW.out.set k2 (.int .i64 9))
          have HB6 := Lib.hid (HBW.out.setCell (p := ⟨g, k2, none⟩) (by have h1 := (HN3.out.2 g rfl).1; have h2 := HN1.out.1; have h3 := HN2.out.1; show w.heap.size ≤ g; omega) (.int .i64 9))
          have hll : (l'.set k2 9).length = mb := by rw [List.length_set]; exact hl'
          have HL6 := Lib.hid hll
          generalize l'.set k2 9 = l6 at *
          clear hx hll hl'
          go_wp2_with fail
          go_roundw
          case rel => exact ⟨k2 + 1, l6, by go_num, by omega, HL6.out, HO6, HK6, HB6⟩
          case measure => simp [intOf]; omega
        · have hltz : ¬ (k2 : Int) < (mb : Int) := by omega
          have hq3 : S4 < V4.heap.size := by omega
          have HC8 : Hid (CB wr w.heap.size ⟨e, L, nw⟩ a2 L.length c2) := Lib.hid ⟨HC7.out.c.kept (HKW.out.2 _ (fun e => by have h1 := (HN3.out.2 _ e).1; have h2 := HN1.out.1; have h3 := HN2.out.1; omega)), HC7.out.v.kept (by rw [HKW.out.1]; exact Nat.le_refl _) (fun j hj => HKW.out.2 j (fun e => by have h1 := (HN3.out.2 j e).1; have h2 := HN1.out.2.2.1 j hj; have h3 := HN2.out.1; omega))⟩
          have HW8 : Hid (CB wr S3 ⟨e, L, nw⟩ a3 L.length c3) := Lib.hid ⟨HW7.out.c.kept (HKW.out.2 _ (fun e => by have h1 := (HN3.out.2 _ e).1; have h3 := HN2.out.1; omega)), HW7.out.v.kept (by rw [HKW.out.1]; exact Nat.le_refl _) (fun j hj => HKW.out.2 j (fun e => by have h1 := (HN3.out.2 j e).1; have h2 := HN1.out.2.2.2 j hj; have h3 := HN2.out.1; omega))⟩
          obtain ⟨⟨r0, r1, r2⟩, _⟩ := HC8.out.c
          obtain ⟨⟨q0, q1, q2⟩, _⟩ := HW8.out.c
          dsimp only at r0 r1 r2 q0 q1 q2
          have HQ := reqr_p e nw e nw _ _ L L wr HC8.out.v HW8.out.v (by omega) (by omega)
          rw [show eqR ⟨e, L, nw⟩ ⟨e, L, nw⟩ = true by unfold eqR; simp] at HQ
          have HQ := Lib.hid HQ
          clear hq1 hq2 hq3 hl'
          go_wp2_with fail
          refine HQ.out.mono ?_
          rintro _ W9 ⟨rfl, hb9⟩
          have HB9 := Lib.hid (HBW.out.trans (hb9.mono HBW.out.size))
          clear hb9
          go_wp2_with fail
          go_ret
          exact ⟨rfl, HB9.out⟩

end Go.Proofs.Ytlemkpcpeamojaa
