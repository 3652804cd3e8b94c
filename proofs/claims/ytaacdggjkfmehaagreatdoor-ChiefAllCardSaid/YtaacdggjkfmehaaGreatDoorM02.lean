/-
  Contracts of the program, and what they rest on.
-/
import Derived.Test.YtaacdggjkfmehaaGreatDoorM01
import Derived.Lib.AppendZeros
import Derived.Deep.RegionHeld3
import Derived.Deep.RegionLaw
import Derived.BigRegion
namespace Go.Proofs.YtaacdggjkfmehaaGreatDoor
open Go.RowKit
set_option maxRecDepth 100000 in
set_option maxHeartbeats 2000000 in
theorem grow_p (n : Nat) (hn : n ≤ 1000000) (w : World) :
    Calls Tryz.prog 104 #[.slice none 0 0, .int .i64 n] w fun e w' => ∃ ad cap, e = .returned (.slice ad 0 cap) ∧ IOwn w' w.heap.size (.slice ad 0 cap) [] ∧ Below w.heap.size w w' := by
  obtain ⟨i0, hi, hz0, hz1, hz2⟩ := int_info
  by_cases h0 : n = 0
  · subst h0
    go_enter Tryz.func104, Tryz.ntmps104
    go_wp2_with fail
    go_ret
    exact ⟨none, 0, rfl, IOwn.nil _ _, Below.refl _ _⟩
  · have t0 : decide ((n : Int) < 0) = false := decide_eq_false (by omega)
    have t1 : (0 : Int) < (n : Int) := by omega
    have hw0 : IntKind.i64.wrap (n : Int) = (n : Int) := IntWalk.i64_in _ (by omega)
    have hrz : ∀ ty, (Builtin.append_ #[22, 3] ty #[.slice none 0 0, .int .i64 (n : Int)]).run Tryz.prog w = _ := fun ty =>
      Lib.run_append_nil_zeros w 22 3 ty 3 i0 _ .i64 .i64 Tryz.underlying22 Tryz.underlying3 hi hz0 n (by omega) (by omega) (by omega) (by rw [hz2]; omega)
    obtain ⟨G, hG⟩ : ∃ G, G = grownCap w n 0 3 := ⟨_, rfl⟩
    rw [← hG] at hrz
    have hGn : n ≤ G := by rw [hG]; exact grownCap_ge w _ _ _
    have hGm : G ≤ maxLen := by
      have := grownCap_le_maxLen w n 0 3 (by unfold maxLen; omega)
      rw [← hG] at this
      exact this
    obtain ⟨ROW, hROW⟩ : ∃ ROW : Array Value, ROW = Builtin.zeroCells (Value.int .i64 0).cells n ++ Builtin.zeroCells (Value.int .i64 0).cells (G - n) := ⟨_, rfl⟩
    rw [← hROW] at hrz
    have hRs : ROW.size = G * 1 := by
      rw [hROW]
      simp only [Array.size_append, Builtin.zeroCells]
      simp [Value.cells]
      omega
    have HO : Hid (IOwn (w.drew.alloc (.cells ROW 3)) w.heap.size (.slice (some ⟨w.heap.size, 0, none⟩) 0 G) []) := Lib.hid ⟨rfl, .inr ⟨w.heap.size, G, ROW, rfl, Nat.le_refl _, heap_alloc_new w.drew _, Nat.zero_le _, hGm, hRs, rfl⟩⟩
    have HB : Hid (Below w.heap.size w (w.drew.alloc (.cells ROW 3))) := Lib.hid ((Below.refl _ w).drew.alloc (Nat.le_refl _) _)
    clear hROW hG hRs hi hz0 hz1 hz2
    go_enter Tryz.func104, Tryz.ntmps104
    go_wp2_with (at_builtin; refine Lib.wpList_append_run _ rfl _ _ _ _ rfl _ _ rfl rfl _ _ (hrz _) ?_)
    go_ret
    exact ⟨_, _, rfl, HO.out, HB.out⟩
def preC (l1 l2 : List Int) (k : Nat) : List Int := if k = 0 then [] else if k = 1 then l1 else l1 ++ l2
def szC (l1 l2 : List Int) (k : Nat) : Nat := if k = 0 then 0 else if k = 1 then l1.length else l1.length + l2.length
set_option maxRecDepth 100000 in
set_option maxHeartbeats 4000000 in
theorem concat_p (B g1 o1 c1 g2 o2 c2 : Nat) (l1 l2 : List Int) (w : World) (hB : B < w.heap.size) (hv1 : w.cell? ⟨B, 0, none⟩ = some (.slice (some ⟨g1, o1, none⟩) l1.length c1)) (hv2 : w.cell? ⟨B, 1, none⟩ = some (.slice (some ⟨g2, o2, none⟩) l2.length c2))
    (h1 : g1 < w.heap.size ∧ IAt w g1 o1 l1) (h2 : g2 < w.heap.size ∧ IAt w g2 o2 l2) (hn1 : l1.length ≤ 400000) (hn2 : l2.length ≤ 400000) :
    Calls Tryz.prog 90 #[.slice (some ⟨B, 0, none⟩) 2 2] w fun e w' => ∃ ad cap, e = .returned (.slice ad (l1 ++ l2).length cap) ∧ IOwn w' w.heap.size (.slice ad (l1 ++ l2).length cap) (l1 ++ l2) ∧ Below w.heap.size w w' := by
  obtain ⟨i0, hi, hz0, hz1, hz2⟩ := int_info
  have H1 := Lib.hid h1
  have H2 := Lib.hid h2
  have hc1 := icells_length l1
  have hc2 := icells_length l2
  have ho1 := icells_one l1
  have ho2 := icells_one l2
  clear h1 h2
  go_enter Tryz.func90, Tryz.ntmps90
  go_wp2_with fail
  go_loopw [3, 5, 11] (fun s3 _ s11 wr => ∃ (k : Nat) (s : Int), k ≤ 2 ∧ s11 = .int .i64 k ∧ s3 = .int .i64 s ∧ wr = w ∧ Hid (s = ((szC l1 l2 k : Nat) : Int))) (fun _ _ s11 _ => 2 - (intOf s11).toNat)
  case atStart => exact ⟨0, 0, by omega, rfl, rfl, rfl, Lib.hid rfl⟩
  case round =>
    obtain ⟨k, s, hk, rfl, rfl, rfl, hs⟩ := hrel
    obtain rfl | rfl | rfl : k = 0 ∨ k = 1 ∨ k = 2 := by omega
    · obtain rfl : s = 0 := hs.out
      have hw0 : IntKind.i64.wrap (0 + (l1.length : Int)) = (l1.length : Int) := by rw [Int.zero_add]; exact IntWalk.i64_in _ (by omega)
      have hw0' : IntKind.i64.wrap (l1.length : Int) = (l1.length : Int) := IntWalk.i64_in _ (by omega)
      have hn0 : decide ((l1.length : Int) < 0) = false := decide_eq_false (by omega)
      go_wp2_with fail
      go_roundw
      case rel => exact ⟨1, l1.length, by omega, by go_num, by first | rfl | trivial, by first | rfl | trivial, Lib.hid (by simp [szC])⟩
      case measure => simp [intOf]
    · have hs1 : s = (l1.length : Int) := by rw [hs.out]; simp [szC]
      subst hs1
      have hw0 : IntKind.i64.wrap ((l1.length : Int) + (l2.length : Int)) = (l1.length : Int) + (l2.length : Int) := IntWalk.i64_in _ (by omega)
      have hn0 : decide ((l1.length : Int) + (l2.length : Int) < 0) = false := decide_eq_false (by omega)
      go_wp2_with fail
      go_roundw
      case rel => exact ⟨2, (l1.length : Int) + (l2.length : Int), by omega, by go_num, by first | rfl | trivial, by first | rfl | trivial, Lib.hid (by simp [szC])⟩
      case measure => simp [intOf]
    · have hs1 : s = ((l1.length + l2.length : Nat) : Int) := by rw [hs.out]; simp [szC]
      subst hs1
      have HG := Lib.hid (grow_p (l1.length + l2.length) (by omega) wr)
      generalize hN : l1.length + l2.length = N at *
      have HN := Lib.hid hN
      clear hN
      go_wp2_with fail
      refine HG.out.mono ?_
      rintro _ w1 ⟨a0, c0, rfl, hown, hb1⟩
      have HO := Lib.hid hown
      have HB1 := Lib.hid hb1
      have q1 : w1.cell? ⟨B, 0, none⟩ = some (.slice (some ⟨g1, o1, none⟩) l1.length c1) := by rw [hb1.cell hB]; exact hv1
      have q2 : w1.cell? ⟨B, 1, none⟩ = some (.slice (some ⟨g2, o2, none⟩) l2.length c2) := by rw [hb1.cell hB]; exact hv2
      clear hown hb1 HG hv1 hv2
      go_wp2_with fail
      obtain ⟨V, hV⟩ : ∃ V, V = wr := ⟨_, rfl⟩
      subst hV
      go_loopw [6, 8, 27] (fun s6 _ s27 ws => ∃ (k : Nat) (ad : Option Addr) (m cap : Nat), k ≤ 2 ∧ s27 = .int .i64 k ∧ s6 = .slice ad m cap ∧ Hid (IOwn ws V.heap.size (.slice ad m cap) (preC l1 l2 k)) ∧ Hid (Below V.heap.size V ws)) (fun _ _ s27 _ => 2 - (intOf s27).toNat)
      case atStart => exact ⟨0, a0, 0, c0, by omega, rfl, rfl, HO, HB1⟩
      case round =>
        obtain ⟨k, ad, m, cap, hk, rfl, rfl, HOW, HBW⟩ := hrel
        have q1 : wr.cell? ⟨B, 0, none⟩ = some (.slice (some ⟨g1, o1, none⟩) l1.length c1) := by rw [HBW.out.cell hB, ← HB1.out.cell hB]; exact q1
        have q2 : wr.cell? ⟨B, 1, none⟩ = some (.slice (some ⟨g2, o2, none⟩) l2.length c2) := by rw [HBW.out.cell hB, ← HB1.out.cell hB]; exact q2
        obtain rfl | rfl | rfl : k = 0 ∨ k = 1 ∨ k = 2 := by omega
        · have hown : IOwn wr V.heap.size (.slice ad m cap) ([] : List Int) := HOW.out
          obtain rfl : m = ([] : List Int).length := by obtain ⟨x, y, e⟩ := hown.shape; simp only [Value.slice.injEq] at e; exact e.2.1
          have hC : g1 < wr.heap.size ∧ IAt wr g1 o1 l1 := ⟨Nat.lt_of_lt_of_le H1.out.1 HBW.out.size, H1.out.2.kept (HBW.out.block _ H1.out.1)⟩
          have hsz : V.heap.size ≤ wr.heap.size := HBW.out.size
          go_wp2_with (at_builtin; refine wpList_append_own _ rfl _ _ 22 rfl V.heap.size 3 i0 _ 1 8 Tryz.underlying22 hi hz0 hz1 hz2 rfl (by decide) _ _ _ rfl hown ⟨g1, o1, none⟩ l1.length c1 (icells l1) rfl ?qc1 ?qc2 ?qc3 ?qc4 ?qc5 ?qc6 ?_)
          case qc1 => exact hc1
          case qc2 => exact hC.2.cells
          case qc3 => exact ho1
          case qc4 => first | (unfold maxLen; omega) | (simp only [List.length_nil]; unfold maxLen; omega)
          case qc5 => first | omega | (simp only [List.length_nil]; omega)
          case qc6 => exact hsz
          intro v' w2 hown2 hgrow hnil
          have hO2 : IOwn w2 V.heap.size v' ([] ++ l1) := by
            unfold IOwn
            first
              | (rw [icells_append, List.length_append]; exact hown2)
              | (rw [List.nil_append]; simpa [icells] using hown2)
          obtain ⟨a2, c2', rfl⟩ := hO2.shape
          have hB2 : Below V.heap.size V w2 := HBW.out.grown hgrow HBW.out.size (fun j hj => (hown.lt hj).1)
          clear hown hown2 hgrow hnil hC
          go_wp2_with fail
          go_roundw
          case rel => exact ⟨1, _, _, _, by omega, by go_num, rfl, Lib.hid (by simpa [preC] using hO2), Lib.hid hB2⟩
          case measure => simp [intOf]
        · have hown : IOwn wr V.heap.size (.slice ad m cap) l1 := HOW.out
          obtain rfl : m = l1.length := by obtain ⟨x, y, e⟩ := hown.shape; simp only [Value.slice.injEq] at e; exact e.2.1
          have hC : g2 < wr.heap.size ∧ IAt wr g2 o2 l2 := ⟨Nat.lt_of_lt_of_le H2.out.1 HBW.out.size, H2.out.2.kept (HBW.out.block _ H2.out.1)⟩
          have hsz : V.heap.size ≤ wr.heap.size := HBW.out.size
          go_wp2_with (at_builtin; refine wpList_append_own _ rfl _ _ 22 rfl V.heap.size 3 i0 _ 1 8 Tryz.underlying22 hi hz0 hz1 hz2 rfl (by decide) _ _ _ rfl hown ⟨g2, o2, none⟩ l2.length c2 (icells l2) rfl ?qc1 ?qc2 ?qc3 ?qc4 ?qc5 ?qc6 ?_)
          case qc1 => exact hc2
          case qc2 => exact hC.2.cells
          case qc3 => exact ho2
          case qc4 => first | (unfold maxLen; omega) | (simp only [List.length_nil]; unfold maxLen; omega)
          case qc5 => first | omega | (simp only [List.length_nil]; omega)
          case qc6 => exact hsz
          intro v' w2 hown2 hgrow hnil
          have hO2 : IOwn w2 V.heap.size v' (l1 ++ l2) := by
            unfold IOwn
            first
              | (rw [icells_append, List.length_append]; exact hown2)
              | (rw [List.nil_append]; simpa [icells] using hown2)
          obtain ⟨a2, c2', rfl⟩ := hO2.shape
          have hB2 : Below V.heap.size V w2 := HBW.out.grown hgrow HBW.out.size (fun j hj => (hown.lt hj).1)
          clear hown hown2 hgrow hnil hC
          go_wp2_with fail
          go_roundw
          case rel => exact ⟨2, _, _, _, by omega, by go_num, rfl, Lib.hid (by simpa [preC] using hO2), Lib.hid hB2⟩
          case measure => simp [intOf]
        · have hown : IOwn wr V.heap.size (.slice ad m cap) (l1 ++ l2) := HOW.out
          obtain rfl : m = (l1 ++ l2).length := by obtain ⟨x, y, e⟩ := hown.shape; simp only [Value.slice.injEq] at e; exact e.2.1
          go_wp2_with fail
          go_ret
          exact ⟨ad, cap, rfl, hown, HBW.out⟩
end Go.Proofs.YtaacdggjkfmehaaGreatDoor
namespace Go.Proofs.YtaacdggjkfmehaaGreatDoor
open Go.RowKit
def RoOut (r : Ro × Bool) (w : World) (e : Ending) (w' : World) : Prop :=
  ∃ ad cap, e = .returned (.tuple #[.agg #[.int .i64 r.1.ep, .slice ad r.1.l.length cap, .int .i64 r.1.nw], .bool r.2]) ∧ IOwn w' w.heap.size (.slice ad r.1.l.length cap) r.1.l ∧ Below w.heap.size w w'
structure TwoB (w W : World) (e : Int) (ad : Option Addr) (m cap : Nat) (nw : Int) (l : List Int) : Prop where
  a : RC W w.heap.size e (.slice ad m cap) nw
  z : RC W (w.heap.size + 1) 0 (.slice none 0 0) 0
  v : IsAt W (.slice ad m cap) l
  b : Below w.heap.size w W
theorem TwoB.below {w W W' : World} {e nw : Int} {ad : Option Addr} {m cap : Nat} {l : List Int} (h : TwoB w W e ad m cap nw l) (hb : Below W.heap.size W W') : TwoB w W' e ad m cap nw l :=
  ⟨h.a.below hb, h.z.below hb, h.v.below hb, h.b.trans (hb.mono h.b.size)⟩
theorem twoB_new (w : World) (e nw : Int) (ad : Option Addr) (cap : Nat) (l : List Int) (h : IsAt w (.slice ad l.length cap) l) : TwoB w ((w.alloc (.cells #[.int .i64 e, .slice ad l.length cap, .int .i64 nw] 24)).alloc (.cells #[.int .i64 0, .slice none 0 0, .int .i64 0] 24)) e ad l.length cap nw l := by
  have hb : Below w.heap.size w ((w.alloc (.cells #[.int .i64 e, .slice ad l.length cap, .int .i64 nw] 24)).alloc (.cells #[.int .i64 0, .slice none 0 0, .int .i64 0] 24)) := ((Below.refl _ w).alloc (Nat.le_refl _) _).alloc (by simp) _
  refine ⟨(RC.new w e ad l.length cap nw 24).alloc _, ?_, h.below hb, hb⟩
  have := RC.new (w.alloc (.cells #[.int .i64 e, .slice ad l.length cap, .int .i64 nw] 24)) 0 none 0 0 0 24
  simpa using this
theorem box_facts {w W : World} {e0 nw0 : Int} {ad0 : Option Addr} {m0 cap0 : Nat} {l0 : List Int} (h : TwoB w W e0 ad0 m0 cap0 nw0 l0) (e nw : Int) (ad : Option Addr) (m c : Nat) :
    let v := Value.slice ad m c
    let W' := ((W.setCell ⟨w.heap.size + 1, 0, none⟩ (.int .i64 e)).setCell ⟨w.heap.size + 1, 1, none⟩ v).setCell ⟨w.heap.size + 1, 2, none⟩ (.int .i64 nw)
    W'.cell? ⟨w.heap.size + 1, 0, none⟩ = some (.int .i64 e) ∧ W'.cell? ⟨w.heap.size + 1, 1, none⟩ = some v ∧ W'.cell? ⟨w.heap.size + 1, 2, none⟩ = some (.int .i64 nw) ∧ Below w.heap.size w W' ∧ (∀ g, g ≠ w.heap.size + 1 → W'.heap[g]? = W.heap[g]?) := by
  obtain ⟨⟨d0, d1, d2⟩, f0, f1, f2⟩ := h.z
  refine ⟨by go_simp, by go_simp, by go_simp, ((h.b.setCell (p := ⟨w.heap.size + 1, 0, none⟩) (by simp) (.int .i64 e)).setCell (p := ⟨w.heap.size + 1, 1, none⟩) (by simp) (.slice ad m c)).setCell (p := ⟨w.heap.size + 1, 2, none⟩) (by simp) (.int .i64 nw), fun g hg => ?_⟩
  rw [Below.heap_setCell _ _ _ _ (by simpa using hg), Below.heap_setCell _ _ _ _ (by simpa using hg), Below.heap_setCell _ _ _ _ (by simpa using hg)]
theorem mayR_len {e : Int} {l : List Int} {nw : Int} (h : mayR ⟨e, l, nw⟩ = true) : 1 ≤ e ∧ e ≤ 1099511627776 ∧ 1 ≤ l.length ∧ l.length ≤ 5 := by
  unfold mayR mayNs at h
  dsimp only at h
  rw [Bool.and_eq_true, Bool.and_eq_true, Bool.and_eq_true] at h
  have h1 := of_decide_eq_true h.1
  have h2 := of_decide_eq_true h.2.1.1
  omega
set_option maxRecDepth 100000 in
set_option maxHeartbeats 4000000 in
theorem add_p (e nw n : Int) (v : Value) (l : List Int) (w : World) (h : IsAt w v l) (hn : l.length ≤ 1000) :
    Calls Tryz.prog 64 #[.agg #[.int .i64 e, v, .int .i64 nw], .int .i64 n] w (RoOut (addR ⟨e, l, nw⟩ n) w) := by
  obtain ⟨ad, cap, rfl, _⟩ := h.shape
  have HT := Lib.hid (twoB_new w e nw ad cap l h)
  obtain ⟨R, hR⟩ : ∃ R, addR ⟨e, l, nw⟩ n = R := ⟨_, rfl⟩
  rw [hR]
  unfold addR at hR
  dsimp only at hR
  have HM := romay_p e nw _ l _ HT.out.v (by omega)
  cases hm : mayR ⟨e, l, nw⟩ with
  | false =>
    rw [hm] at hR HM
    simp only [Bool.false_and, Bool.false_eq_true, if_false] at hR
    subst hR
    have HM := Lib.hid HM
    clear h hm
    go_enter Tryz.func64, Tryz.ntmps64
    go_wp2_with fail
    generalize ((w.alloc (.cells #[.int .i64 e, .slice ad l.length cap, .int .i64 nw] 24)).alloc (.cells #[.int .i64 0, .slice none 0 0, .int .i64 0] 24)) = W at *
    obtain ⟨⟨c0, c1, c2⟩, _⟩ := HT.out.a
    go_wp2_with fail
    refine HM.out.mono ?_
    rintro _ w2 ⟨rfl, hb2⟩
    have HZ := Lib.hid (HT.out.below hb2)
    clear c0 c1 c2 HM hb2 HT
    obtain ⟨⟨c0, c1, c2⟩, _⟩ := HZ.out.a
    obtain ⟨⟨d0, d1, d2⟩, f0, f1, f2⟩ := HZ.out.z
    go_wp2_with fail
    have hF := box_facts HZ.out 0 0 none 0 0
    dsimp only at hF
    obtain ⟨t0, t1, t2, hB3, _⟩ := hF
    exact bodyPost_ret (v := .tuple #[.agg #[.int .i64 0, .slice none 0 0, .int .i64 0], .bool false]) (by simp [results, Tryz.results64, go_sem, t0, t1, t2]) rfl ⟨none, 0, rfl, IOwn.nil _ _, hB3⟩
  | true =>
  have hlen := mayR_len hm
  rw [hm] at hR HM
  rw [Bool.true_and] at hR
  have HM := Lib.hid HM
  by_cases hz : nw = 0
  case neg =>
    have hzb : (nw == 0) = false := by rw [beq_eq_false_iff_ne]; exact hz
    simp only [hz, decide_false, Bool.false_eq_true, if_false] at hR
    subst hR
    clear h hm hlen hz
    go_enter Tryz.func64, Tryz.ntmps64
    go_wp2_with fail
    generalize ((w.alloc (.cells #[.int .i64 e, .slice ad l.length cap, .int .i64 nw] 24)).alloc (.cells #[.int .i64 0, .slice none 0 0, .int .i64 0] 24)) = W at *
    obtain ⟨⟨c0, c1, c2⟩, _⟩ := HT.out.a
    go_wp2_with fail
    refine HM.out.mono ?_
    rintro _ w2 ⟨rfl, hb2⟩
    have HZ := Lib.hid (HT.out.below hb2)
    clear c0 c1 c2 HM hb2 HT
    obtain ⟨⟨c0, c1, c2⟩, _⟩ := HZ.out.a
    obtain ⟨⟨d0, d1, d2⟩, f0, f1, f2⟩ := HZ.out.z
    go_wp2_with fail
    have hF := box_facts HZ.out 0 0 none 0 0
    dsimp only at hF
    obtain ⟨t0, t1, t2, hB3, _⟩ := hF
    exact bodyPost_ret (v := .tuple #[.agg #[.int .i64 0, .slice none 0 0, .int .i64 0], .bool false]) (by simp [results, Tryz.results64, go_sem, t0, t1, t2]) rfl ⟨none, 0, rfl, IOwn.nil _ _, hB3⟩
  have hzb : (nw == 0) = true := beq_iff_eq.2 hz
  simp only [hz, decide_true, if_true] at hR
  have HR := Lib.hid hR
  have hadl := h
  obtain ⟨x0, hx0⟩ : ∃ x, l[0]? = some x := ⟨_, List.getElem?_eq_getElem (by omega)⟩
  obtain ⟨g, o, rfl, _⟩ := h.get hx0
  have hw1 : IntKind.i64.wrap (e + 1) = e + 1 := IntWalk.i64_in _ (by omega)
  clear h hm hz hR hx0 hadl
  go_enter Tryz.func64, Tryz.ntmps64
  go_wp2_with fail
  generalize ((w.alloc (.cells #[.int .i64 e, .slice (some ⟨g, o, none⟩) l.length cap, .int .i64 nw] 24)).alloc (.cells #[.int .i64 0, .slice none 0 0, .int .i64 0] 24)) = W at *
  obtain ⟨⟨c0, c1, c2⟩, _⟩ := HT.out.a
  go_wp2_with fail
  refine HM.out.mono ?_
  rintro _ w2 ⟨rfl, hb2⟩
  have HZ := Lib.hid (HT.out.below hb2)
  clear c0 c1 c2 HM hb2 HT
  obtain ⟨⟨c0, c1, c2⟩, _⟩ := HZ.out.a
  go_wp2_with fail
  have HS : Hid (∀ Y, Below w2.heap.size w2 Y → Y.cell? ⟨w.heap.size, 0, none⟩ = some (.int .i64 e) ∧ Y.cell? ⟨w.heap.size, 1, none⟩ = some (.slice (some ⟨g, o, none⟩) l.length cap) ∧ Y.cell? ⟨w.heap.size, 2, none⟩ = some (.int .i64 nw)) := Lib.hid (fun Y hY => (HZ.out.below hY).a.1)
  have HX0 : Hid (Below w2.heap.size w2 w2.drew) := Lib.hid (Below.refl _ _).drew
  have hS0 := HS.out _ HX0.out
  clear c0 c1 c2
  refine wp_region_held_drew (S := fun Y => Y.cell? ⟨w.heap.size, 0, none⟩ = some (.int .i64 e) ∧ Y.cell? ⟨w.heap.size, 1, none⟩ = some (.slice (some ⟨g, o, none⟩) l.length cap) ∧ Y.cell? ⟨w.heap.size, 2, none⟩ = some (.int .i64 nw)) (by kernel_rfl) hS0 (fun _ => ?_)
  refine wpAnyH_take (i := 0) (v := Value.pointer (some ⟨w.heap.size, 0, none⟩)) rfl (by kernel_rfl) (by kernel_rfl) (by kernel_rfl) (fun _ _ _ h => h) (Or.inl ⟨by rfl, ?_⟩) hS0 ?_
  · intro w' ⟨s0, s1, s2⟩; go_simp
  refine wpAnyH_take (i := 1) (v := Value.int .i64 e) rfl (by kernel_rfl) (by kernel_rfl) (by kernel_rfl) (fun _ _ _ h => h) (Or.inl ⟨by rfl, ?_⟩) hS0 ?_
  · intro w' ⟨s0, s1, s2⟩; go_simp
  refine wpAnyH_take (i := 2) (v := Value.int .i64 (e + 1)) rfl (by kernel_rfl) (by kernel_rfl) (by kernel_rfl) (fun _ _ _ h => h) (Or.inl ⟨by rfl, ?_⟩) hS0 ?_
  · intro w' ⟨s0, s1, s2⟩; go_simp
  refine wpAnyH_take (i := 3) (v := Value.pointer (some ⟨w.heap.size, 1, none⟩)) rfl (by kernel_rfl) (by kernel_rfl) (by kernel_rfl) (fun _ _ _ h => h) (Or.inl ⟨by rfl, ?_⟩) hS0 ?_
  · intro w' ⟨s0, s1, s2⟩; go_simp
  refine wpAnyH_take (i := 4) (v := Value.slice (some ⟨g, o, none⟩) l.length cap) rfl (by kernel_rfl) (by kernel_rfl) (by kernel_rfl) (fun _ _ _ h => h) (Or.inl ⟨by rfl, ?_⟩) hS0 ?_
  · intro w' ⟨s0, s1, s2⟩; go_simp
  refine wpAnyH_take (i := 5) (v := Value.int .i64 n) rfl (by kernel_rfl) (by kernel_rfl) (by kernel_rfl) (fun _ _ _ h => h) (Or.inl ⟨by rfl, ?_⟩) hS0 ?_
  · intro w' ⟨s0, s1, s2⟩; go_simp
  refine wpAnyH_take (i := 9) (v := Value.int .i64 n) rfl (by kernel_rfl) (by kernel_rfl) (by kernel_rfl) (fun _ _ _ h => h) (Or.inl ⟨by rfl, ?_⟩) hS0 ?_
  · intro w' ⟨s0, s1, s2⟩; go_simp
  simp only [List.getElem_toArray, List.getElem_cons_succ, List.getElem_cons_zero, Act.put, List.setIfInBounds_toArray, List.set_cons_zero, List.set_cons_succ]
  clear hS0
  generalize hY0 : w2.drew = Y0 at *

  clear hY0
  refine wpAnyH_ready (rs := [6]) (by kernel_rfl) (by simp) ?_
  refine (AllReadyH.cons rfl (fun K hK => ?_) AllReadyH.nil)
  simp only [List.getElem_toArray, List.getElem_cons_succ, List.getElem_cons_zero]
  go_simp
  have hy : Below Y0.heap.size Y0 (Y0.alloc (.cells #[.int .i64 n] 3)) := (Below.refl _ _).alloc (Nat.le_refl _) _
  have HN0 : Hid ((Y0.alloc (.cells #[.int .i64 n] 3)).cell? ⟨Y0.heap.size, 0, none⟩ = some (.int .i64 n)) := Lib.hid (by go_simp)
  have HX1 := Lib.hid (HX0.out.trans (hy.mono HX0.out.size))
  have hlt1 : Y0.heap.size < (Y0.alloc (.cells #[.int .i64 n] 3)).heap.size := by simp
  refine hK.out _ _ (HS.out _ HX1.out) (fun _ => ?_)
  clear hK hy
  generalize Y0.alloc (.cells #[.int .i64 n] 3) = Y1 at *
  generalize Y0.heap.size = C at *
  refine wpAnyH_ready (rs := [7]) (by kernel_rfl) (by simp) ?_
  refine (AllReadyH.cons rfl (fun K hK => ?_) AllReadyH.nil)
  simp only [List.getElem_toArray, List.getElem_cons_succ, List.getElem_cons_zero]
  go_simp
  have hy : Below Y1.heap.size Y1 (Y1.alloc (.cells #[.slice (some ⟨g, o, none⟩) l.length cap, .slice (some ⟨C, 0, none⟩) 1 1] 22)) := (Below.refl _ _).alloc (Nat.le_refl _) _
  have HC0 : Hid ((Y1.alloc (.cells #[.slice (some ⟨g, o, none⟩) l.length cap, .slice (some ⟨C, 0, none⟩) 1 1] 22)).cell? ⟨Y1.heap.size, 0, none⟩ = some (.slice (some ⟨g, o, none⟩) l.length cap)) := Lib.hid (by go_simp)
  have HC1 : Hid ((Y1.alloc (.cells #[.slice (some ⟨g, o, none⟩) l.length cap, .slice (some ⟨C, 0, none⟩) 1 1] 22)).cell? ⟨Y1.heap.size, 1, none⟩ = some (.slice (some ⟨C, 0, none⟩) 1 1)) := Lib.hid (by go_simp)
  have HX2 := Lib.hid (HX1.out.trans (hy.mono HX1.out.size))
  have HN1 : Hid ((Y1.alloc (.cells #[.slice (some ⟨g, o, none⟩) l.length cap, .slice (some ⟨C, 0, none⟩) 1 1] 22)).cell? ⟨C, 0, none⟩ = some (.int .i64 n)) := Lib.hid (by rw [hy.cell hlt1]; exact HN0.out)
  have hlt2 : C < (Y1.alloc (.cells #[.slice (some ⟨g, o, none⟩) l.length cap, .slice (some ⟨C, 0, none⟩) 1 1] 22)).heap.size := Nat.lt_of_lt_of_le hlt1 hy.size
  have hlt3 : Y1.heap.size < (Y1.alloc (.cells #[.slice (some ⟨g, o, none⟩) l.length cap, .slice (some ⟨C, 0, none⟩) 1 1] 22)).heap.size := by simp
  refine hK.out _ _ (HS.out _ HX2.out) (fun _ => ?_)
  clear hK hy hlt1 HN0
  generalize Y1.alloc (.cells #[.slice (some ⟨g, o, none⟩) l.length cap, .slice (some ⟨C, 0, none⟩) 1 1] 22) = Y2 at *
  generalize Y1.heap.size = B at *
  refine wpAnyH_ready (rs := [8]) (by kernel_rfl) (by simp) ?_
  refine (AllReadyH.cons rfl (fun K hK => ?_) AllReadyH.nil)
  simp only [List.getElem_toArray, List.getElem_cons_succ, List.getElem_cons_zero]
  go_simp
  have hla : g < Y2.heap.size ∧ IAt Y2 g o l := by
    rcases (HZ.out.below HX2.out).v with ⟨e0, _⟩ | ⟨g', o', c', e0, _, _, h3, h4⟩
    · cases e0
    · simp only [Value.slice.injEq, Option.some.injEq, Addr.mk.injEq, and_true] at e0
      obtain ⟨⟨rfl, rfl⟩, _⟩ := e0
      exact ⟨h3, h4⟩
  have hlb : C < Y2.heap.size ∧ IAt Y2 C 0 [n] := ⟨hlt2, fun j x hx => by
    cases j with
    | zero => simp at hx; subst hx; exact HN1.out
    | succ j => simp at hx⟩
  refine (concat_p B g o cap C 0 1 l [n] Y2 hlt3 HC0.out HC1.out hla hlb (by omega) (by simp)).mono ?_
  rintro _ Y3 ⟨a3, c3, rfl, ho3, hy⟩
  have HX3 := Lib.hid (HX2.out.trans (hy.mono HX2.out.size))
  have HO2 : Hid (∀ j, (Value.slice a3 (l ++ [n]).length c3).ownBlock = some j → w.heap.size + 2 ≤ j) := Lib.hid (fun j hj => by
    have h1 := (ho3.lt hj).1
    have h2 := HX2.out.size
    have h3 := HZ.out.z.lt
    omega)
  have HO3 := Lib.hid (ho3.mono (show w.heap.size ≤ Y2.heap.size from Nat.le_trans HZ.out.b.size HX2.out.size))
  clear hy ho3 hla hlb HN1 HC0 HC1 hlt2 hlt3
  have hLL : (l ++ [n]).length ≤ 1001 := by simp; omega
  generalize l ++ [n] = L at *
  refine hK.out _ _ (HS.out _ HX3.out) (fun _ => ?_)
  clear hK
  have hS0 := HS.out _ HX3.out
  refine wpAnyH_take (i := 10) (v := Value.agg #[.int .i64 (e + 1), .slice a3 L.length c3, .int .i64 n]) rfl (by kernel_rfl) (by kernel_rfl) (by kernel_rfl) (fun _ _ _ h => h) (Or.inl ⟨by rfl, ?_⟩) hS0 ?_
  · intro w' ⟨s0, s1, s2⟩; go_simp
  simp only [List.getElem_toArray, List.getElem_cons_succ, List.getElem_cons_zero, Act.put, List.setIfInBounds_toArray, List.set_cons_zero, List.set_cons_succ]
  clear hS0
  refine wpAnyH_ready (rs := [11]) (by kernel_rfl) (by simp) ?_
  refine (AllReadyH.cons rfl (fun K hK => ?_) AllReadyH.nil)
  simp only [List.getElem_toArray, List.getElem_cons_succ, List.getElem_cons_zero]
  go_simp
  have HZ3 := Lib.hid (HZ.out.below HX3.out)
  have HOWN : Hid (∀ j, (Value.slice a3 L.length c3).ownBlock = some j → w.heap.size + 2 ≤ j) := HO2
  cases hc : mayR ⟨e + 1, L, n⟩ with
  | true =>
    refine (checked_yes (e + 1) n a3 c3 L Y3 HO3.out.at (by omega) hc).mono ?_
    rintro _ W4 ⟨rfl, hy⟩
    have HX4 := Lib.hid (HX3.out.trans (hy.mono HX3.out.size))
    have HZ4 := Lib.hid (HZ3.out.below hy)
    have HO4 := Lib.hid (HO3.out.below hy)
    have HOW : Hid (∀ j, (Value.slice a3 L.length c3).ownBlock = some j → w.heap.size + 2 ≤ j) := HOWN
    clear hy
    refine hK.out _ _ (HS.out _ HX4.out) (fun _ => ?_)
    clear hK
    have hS0 := HS.out _ HX4.out
    refine wpAnyH_take (i := 12) (v := Value.agg #[.int .i64 (e + 1), .slice a3 L.length c3, .int .i64 n]) rfl (by kernel_rfl) (by kernel_rfl) (by kernel_rfl) (fun _ _ _ h => h) (Or.inl ⟨by rfl, ?_⟩) hS0 ?_
    · intro w' ⟨s0, s1, s2⟩; go_simp
    refine wpAnyH_take (i := 13) (v := Value.bool true) rfl (by kernel_rfl) (by kernel_rfl) (by kernel_rfl) (fun _ _ _ h => h) (Or.inl ⟨by rfl, ?_⟩) hS0 ?_
    · intro w' ⟨s0, s1, s2⟩; go_simp
    simp only [List.getElem_toArray, List.getElem_cons_succ, List.getElem_cons_zero, Act.put, List.setIfInBounds_toArray, List.set_cons_zero, List.set_cons_succ]
    clear hS0
    have hF := box_facts HZ4.out (e + 1) n a3 L.length c3
    dsimp only at hF
    obtain ⟨t0, t1, t2, hB3, hk⟩ := hF
    have HT3 := Lib.hid (And.intro t0 (And.intro t1 (And.intro t2 (And.intro hB3 hk))))
    have HSF : Hid ((((W4.setCell ⟨w.heap.size + 1, 0, none⟩ (.int .i64 (e + 1))).setCell ⟨w.heap.size + 1, 1, none⟩ (.slice a3 L.length c3)).setCell ⟨w.heap.size + 1, 2, none⟩ (.int .i64 n)).cell? ⟨w.heap.size, 0, none⟩ = some (.int .i64 e) ∧ (((W4.setCell ⟨w.heap.size + 1, 0, none⟩ (.int .i64 (e + 1))).setCell ⟨w.heap.size + 1, 1, none⟩ (.slice a3 L.length c3)).setCell ⟨w.heap.size + 1, 2, none⟩ (.int .i64 n)).cell? ⟨w.heap.size, 1, none⟩ = some (.slice (some ⟨g, o, none⟩) l.length cap) ∧ (((W4.setCell ⟨w.heap.size + 1, 0, none⟩ (.int .i64 (e + 1))).setCell ⟨w.heap.size + 1, 1, none⟩ (.slice a3 L.length c3)).setCell ⟨w.heap.size + 1, 2, none⟩ (.int .i64 n)).cell? ⟨w.heap.size, 2, none⟩ = some (.int .i64 nw)) := Lib.hid (HZ4.out.a.kept (hk _ (by omega))).1
    clear t0 t1 t2 hB3 hk
    obtain ⟨⟨d0, d1, d2⟩, f0, f1, f2⟩ := HZ4.out.z
    refine wpAnyH_ready (rs := [14]) (by kernel_rfl) (by simp) ?_
    refine (AllReadyH.cons rfl (fun K hK => ?_) AllReadyH.nil)
    simp only [List.getElem_toArray, List.getElem_cons_succ, List.getElem_cons_zero]
    go_simp
    refine hK.out _ _ HSF.out (fun _ => ?_)
    clear hK d0 d1 d2 f0 f1 f2
    refine wpAnyH_ready (rs := [15]) (by kernel_rfl) (by simp) ?_
    refine (AllReadyH.cons rfl (fun K hK => ?_) AllReadyH.nil)
    simp only [List.getElem_toArray, List.getElem_cons_succ, List.getElem_cons_zero]
    go_simp
    refine hK.out _ _ HSF.out (fun _ => ?_)
    clear hK
    refine wpAnyH_done (by kernel_rfl) ?_ _
    have HRR : R = (⟨e + 1, L, n⟩, true) := by rw [← HR.out]; unfold chkR; rw [hc]; rfl
    subst HRR
    obtain ⟨t0, t1, t2, hB3, hk⟩ := HT3.out
    go_wp2_with fail
    exact bodyPost_ret (v := .tuple #[.agg #[.int .i64 (e + 1), .slice a3 L.length c3, .int .i64 n], .bool true]) (by simp [results, Tryz.results64, go_sem, t0, t1, t2]) rfl ⟨_, _, rfl, HO4.out.kept (fun g hg => hk g (by have := (HOW.out g hg); omega)), hB3⟩
  | false =>
    refine (checked_no (e + 1) n a3 c3 L Y3 HO3.out.at (by omega) hc).mono ?_
    rintro _ W4 ⟨rfl, hy⟩
    have HX4 := Lib.hid (HX3.out.trans (hy.mono HX3.out.size))
    have HZ4 := Lib.hid (HZ3.out.below hy)
    have HO4 := Lib.hid (HO3.out.below hy)
    have HOW : Hid (∀ j, (Value.slice a3 L.length c3).ownBlock = some j → w.heap.size + 2 ≤ j) := HOWN
    clear hy
    refine hK.out _ _ (HS.out _ HX4.out) (fun _ => ?_)
    clear hK
    have hS0 := HS.out _ HX4.out
    refine wpAnyH_take (i := 12) (v := Value.agg #[.int .i64 0, .slice none 0 0, .int .i64 0]) rfl (by kernel_rfl) (by kernel_rfl) (by kernel_rfl) (fun _ _ _ h => h) (Or.inl ⟨by rfl, ?_⟩) hS0 ?_
    · intro w' ⟨s0, s1, s2⟩; go_simp
    refine wpAnyH_take (i := 13) (v := Value.bool false) rfl (by kernel_rfl) (by kernel_rfl) (by kernel_rfl) (fun _ _ _ h => h) (Or.inl ⟨by rfl, ?_⟩) hS0 ?_
    · intro w' ⟨s0, s1, s2⟩; go_simp
    simp only [List.getElem_toArray, List.getElem_cons_succ, List.getElem_cons_zero, Act.put, List.setIfInBounds_toArray, List.set_cons_zero, List.set_cons_succ]
    clear hS0
    have hF := box_facts HZ4.out 0 0 none 0 0
    dsimp only at hF
    obtain ⟨t0, t1, t2, hB3, hk⟩ := hF
    have HT3 := Lib.hid (And.intro t0 (And.intro t1 (And.intro t2 (And.intro hB3 hk))))
    have HSF : Hid ((((W4.setCell ⟨w.heap.size + 1, 0, none⟩ (.int .i64 0)).setCell ⟨w.heap.size + 1, 1, none⟩ (.slice none 0 0)).setCell ⟨w.heap.size + 1, 2, none⟩ (.int .i64 0)).cell? ⟨w.heap.size, 0, none⟩ = some (.int .i64 e) ∧ (((W4.setCell ⟨w.heap.size + 1, 0, none⟩ (.int .i64 0)).setCell ⟨w.heap.size + 1, 1, none⟩ (.slice none 0 0)).setCell ⟨w.heap.size + 1, 2, none⟩ (.int .i64 0)).cell? ⟨w.heap.size, 1, none⟩ = some (.slice (some ⟨g, o, none⟩) l.length cap) ∧ (((W4.setCell ⟨w.heap.size + 1, 0, none⟩ (.int .i64 0)).setCell ⟨w.heap.size + 1, 1, none⟩ (.slice none 0 0)).setCell ⟨w.heap.size + 1, 2, none⟩ (.int .i64 0)).cell? ⟨w.heap.size, 2, none⟩ = some (.int .i64 nw)) := Lib.hid (HZ4.out.a.kept (hk _ (by omega))).1
    clear t0 t1 t2 hB3 hk
    obtain ⟨⟨d0, d1, d2⟩, f0, f1, f2⟩ := HZ4.out.z
    refine wpAnyH_ready (rs := [14]) (by kernel_rfl) (by simp) ?_
    refine (AllReadyH.cons rfl (fun K hK => ?_) AllReadyH.nil)
    simp only [List.getElem_toArray, List.getElem_cons_succ, List.getElem_cons_zero]
    go_simp
    refine hK.out _ _ HSF.out (fun _ => ?_)
    clear hK d0 d1 d2 f0 f1 f2
    refine wpAnyH_ready (rs := [15]) (by kernel_rfl) (by simp) ?_
    refine (AllReadyH.cons rfl (fun K hK => ?_) AllReadyH.nil)
    simp only [List.getElem_toArray, List.getElem_cons_succ, List.getElem_cons_zero]
    go_simp
    refine hK.out _ _ HSF.out (fun _ => ?_)
    clear hK
    refine wpAnyH_done (by kernel_rfl) ?_ _
    have HRR : R = (Ro.zero, false) := by rw [← HR.out]; unfold chkR; rw [hc]; rfl
    subst HRR
    obtain ⟨t0, t1, t2, hB3, hk⟩ := HT3.out
    go_wp2_with fail
    exact bodyPost_ret (v := .tuple #[.agg #[.int .i64 0, .slice none 0 0, .int .i64 0], .bool false]) (by simp [results, Tryz.results64, go_sem, t0, t1, t2]) rfl ⟨_, _, rfl, IOwn.nil _ _, hB3⟩
end Go.Proofs.YtaacdggjkfmehaaGreatDoor
namespace Go.Proofs.YtaacdggjkfmehaaGreatDoor
open Go.RowKit
theorem rc_set2 {w : World} {b : Nat} {e n : Int} {v : Value} (h : RC w b e v n) (m : Int) : RC (w.setCell ⟨b, 2, none⟩ (.int .i64 m)) b e v m := by
  obtain ⟨⟨h0, h1, h2⟩, f0, f1, f2⟩ := h
  refine ⟨⟨?_, ?_, ?_⟩, ?_, ?_, ?_⟩ <;> go_simp
theorem rc_put {w : World} {b : Nat} {e0 n0 : Int} {v0 : Value} (h : RC w b e0 v0 n0) (e n : Int) (ad : Option Addr) (m c : Nat) : RC (((w.setCell ⟨b, 0, none⟩ (.int .i64 e)).setCell ⟨b, 1, none⟩ (.slice ad m c)).setCell ⟨b, 2, none⟩ (.int .i64 n)) b e (.slice ad m c) n := by
  obtain ⟨⟨h0, h1, h2⟩, f0, f1, f2⟩ := h
  refine ⟨⟨?_, ?_, ?_⟩, ?_, ?_, ?_⟩ <;> go_simp
set_option maxRecDepth 100000 in
set_option maxHeartbeats 8000000 in
theorem drop_p (e nw n : Int) (v : Value) (l : List Int) (w : World) (h : IsAt w v l) (hn : l.length ≤ 1000) :
    Calls Tryz.prog 65 #[.agg #[.int .i64 e, v, .int .i64 nw], .int .i64 n] w (RoOut (dropR ⟨e, l, nw⟩ n) w) := by
  obtain ⟨ad, cap, rfl, hcap⟩ := h.shape
  have HT := Lib.hid (twoB_new w e nw ad cap l h)
  obtain ⟨R, hR⟩ : ∃ R, dropR ⟨e, l, nw⟩ n = R := ⟨_, rfl⟩
  rw [hR]
  unfold dropR at hR
  dsimp only at hR
  have HI := Lib.hid (index_p _ l n _ HT.out.v (by omega))
  have HM := romay_p e nw _ l _ HT.out.v (by omega)
  have hix := ixI_cases l n
  cases hm : mayR ⟨e, l, nw⟩ with
  | false =>
    rw [hm] at HM hR
    have hRz : R = (Ro.zero, false) := by
      rw [← hR]
      cases ixN l n <;> rfl
    subst hRz
    have HM := Lib.hid HM
    clear h hm hix hR
    generalize ixI l n = kk at *
    go_enter Tryz.func65, Tryz.ntmps65
    go_wp2_with fail
    generalize ((w.alloc (.cells #[.int .i64 e, .slice ad l.length cap, .int .i64 nw] 24)).alloc (.cells #[.int .i64 0, .slice none 0 0, .int .i64 0] 24)) = W at *
    obtain ⟨⟨c0, c1, c2⟩, _⟩ := HT.out.a
    go_wp2_with fail
    refine HI.out.mono ?_
    rintro _ _ ⟨rfl, rfl⟩
    go_wp2_with fail
    refine HM.out.mono ?_
    rintro _ w2 ⟨rfl, hb2⟩
    have HZ := Lib.hid (HT.out.below hb2)
    clear c0 c1 c2 HM hb2 HT HI
    obtain ⟨⟨c0, c1, c2⟩, _⟩ := HZ.out.a
    obtain ⟨⟨d0, d1, d2⟩, f0, f1, f2⟩ := HZ.out.z
    go_wp2_with fail
    have hF := box_facts HZ.out 0 0 none 0 0
    dsimp only at hF
    obtain ⟨t0, t1, t2, hB3, _⟩ := hF
    exact bodyPost_ret (v := .tuple #[.agg #[.int .i64 0, .slice none 0 0, .int .i64 0], .bool false]) (by simp [results, Tryz.results65, go_sem, t0, t1, t2]) rfl ⟨none, 0, rfl, IOwn.nil _ _, hB3⟩
  | true =>
  have hlen := mayR_len hm
  rw [hm] at HM hR
  have HM := Lib.hid HM
  rcases hix with ⟨hi1, hi2⟩ | ⟨k, hk, hi1, hi2⟩
  · rw [hi2] at hR
    dsimp only at hR
    subst hR
    rw [hi1] at HI
    clear h hm hi1 hi2 hlen
    go_enter Tryz.func65, Tryz.ntmps65
    go_wp2_with fail
    generalize ((w.alloc (.cells #[.int .i64 e, .slice ad l.length cap, .int .i64 nw] 24)).alloc (.cells #[.int .i64 0, .slice none 0 0, .int .i64 0] 24)) = W at *
    obtain ⟨⟨c0, c1, c2⟩, _⟩ := HT.out.a
    go_wp2_with fail
    refine HI.out.mono ?_
    rintro _ _ ⟨rfl, rfl⟩
    go_wp2_with fail
    refine HM.out.mono ?_
    rintro _ w2 ⟨rfl, hb2⟩
    have HZ := Lib.hid (HT.out.below hb2)
    clear c0 c1 c2 HM hb2 HT HI
    obtain ⟨⟨c0, c1, c2⟩, _⟩ := HZ.out.a
    obtain ⟨⟨d0, d1, d2⟩, f0, f1, f2⟩ := HZ.out.z
    go_wp2_with fail
    have hF := box_facts HZ.out 0 0 none 0 0
    dsimp only at hF
    obtain ⟨t0, t1, t2, hB3, _⟩ := hF
    exact bodyPost_ret (v := .tuple #[.agg #[.int .i64 0, .slice none 0 0, .int .i64 0], .bool false]) (by simp [results, Tryz.results65, go_sem, t0, t1, t2]) rfl ⟨none, 0, rfl, IOwn.nil _ _, hB3⟩
  rw [hi2] at hR
  dsimp only at hR
  simp only [if_true] at hR
  rw [hi1] at HI
  have HR := Lib.hid hR
  obtain ⟨x0, hx0⟩ : ∃ x, l[0]? = some x := ⟨_, List.getElem?_eq_getElem (by omega)⟩
  obtain ⟨g, o, rfl, _⟩ := h.get hx0
  have hw1 : IntKind.i64.wrap (e + 1) = e + 1 := IntWalk.i64_in _ (by omega)
  have hw2 : IntKind.i64.wrap ((k : Int) + 1) = (k : Int) + 1 := IntWalk.i64_in _ (by omega)
  have hk0 : decide ((k : Int) < 0) = false := decide_eq_false (by omega)
  have hk1 : k ≤ cap := by omega
  have hk2 : k + 1 ≤ l.length := by omega
  have hk3 : (k : Int) + 1 ≤ (l.length : Int) := by omega
  have hk4 : (0 : Int) ≤ (k : Int) + 1 := by omega
  have hk5 : ((k : Int) + 1).toNat = k + 1 := by omega
  have hk6 : (k : Int) ≤ (cap : Int) := by omega
  obtain ⟨o2, hO2⟩ : ∃ o2, (cap = k + 1 ∧ o2 = o) ∨ (¬ cap = k + 1 ∧ o2 = o + (k + 1)) := by
    by_cases hc : cap = k + 1
    · exact ⟨o, .inl ⟨hc, rfl⟩⟩
    · exact ⟨o + (k + 1), .inr ⟨hc, rfl⟩⟩
  have HC2 := Lib.hid hO2
  have HIA : Hid (∀ Y, TwoB w Y e (some ⟨g, o, none⟩) l.length cap nw l → (g < Y.heap.size ∧ IAt Y g o (l.take k)) ∧ (g < Y.heap.size ∧ IAt Y g o2 (l.drop (k + 1)))) := Lib.hid (fun Y hY => by
    rcases hY.v with ⟨e0, _⟩ | ⟨g', o', c', e0, hlc, _, h3, h4⟩
    · cases e0
    · simp only [Value.slice.injEq, Option.some.injEq, Addr.mk.injEq, and_true, true_and] at e0
      obtain ⟨⟨rfl, rfl⟩, rfl⟩ := e0
      refine ⟨⟨h3, fun j x hx => h4 j x ?_⟩, ⟨h3, fun j x hx => ?_⟩⟩
      · rw [List.getElem?_take] at hx
        split at hx
        · exact hx
        · cases hx
      · rw [List.getElem?_drop] at hx
        have hj : k + 1 + j < l.length := (List.getElem?_eq_some_iff.1 hx).1
        rcases hO2 with ⟨hc, _⟩ | ⟨_, ho⟩
        · omega
        · subst ho
          rw [Nat.add_assoc]
          exact h4 (k + 1 + j) x hx)
  have HIL : Hid (g < w.heap.size) := Lib.hid (by
    rcases h with ⟨e0, _⟩ | ⟨g', o', c', e0, _, _, h3, _⟩
    · cases e0
    · simp only [Value.slice.injEq, Option.some.injEq, Addr.mk.injEq, and_true] at e0
      obtain ⟨⟨rfl, rfl⟩, _⟩ := e0
      exact h3)
  clear h hm hR hx0 hi1 hi2 hO2
  go_enter Tryz.func65, Tryz.ntmps65
  go_wp2_with fail
  generalize ((w.alloc (.cells #[.int .i64 e, .slice (some ⟨g, o, none⟩) l.length cap, .int .i64 nw] 24)).alloc (.cells #[.int .i64 0, .slice none 0 0, .int .i64 0] 24)) = W at *
  obtain ⟨⟨c0, c1, c2⟩, _⟩ := HT.out.a
  go_wp2_with fail
  refine HI.out.mono ?_
  rintro _ _ ⟨rfl, rfl⟩
  go_wp2_with fail
  refine HM.out.mono ?_
  rintro _ w2 ⟨rfl, hb2⟩
  have HZ := Lib.hid (HT.out.below hb2)
  clear c0 c1 c2 HM hb2 HT HI
  obtain ⟨⟨c0, c1, c2⟩, _⟩ := HZ.out.a
  replace HIA : Hid (∀ Y, Below w2.heap.size w2 Y → (g < Y.heap.size ∧ IAt Y g o (l.take k)) ∧ (g < Y.heap.size ∧ IAt Y g o2 (l.drop (k + 1)))) := Lib.hid (fun Y hY => HIA.out Y (HZ.out.below hY))
  go_wp2_with fail
  have HS : Hid (∀ Y, Below w2.heap.size w2 Y → Y.cell? ⟨w.heap.size, 0, none⟩ = some (.int .i64 e) ∧ Y.cell? ⟨w.heap.size, 1, none⟩ = some (.slice (some ⟨g, o, none⟩) l.length cap) ∧ Y.cell? ⟨w.heap.size, 2, none⟩ = some (.int .i64 nw)) := Lib.hid (fun Y hY => (HZ.out.below hY).a.1)
  have HX0 : Hid (Below w2.heap.size w2 w2.drew) := Lib.hid (Below.refl _ _).drew
  have hS0 := HS.out _ HX0.out
  clear c0 c1 c2
  refine wp_region_held_drew (S := fun Y => Y.cell? ⟨w.heap.size, 0, none⟩ = some (.int .i64 e) ∧ Y.cell? ⟨w.heap.size, 1, none⟩ = some (.slice (some ⟨g, o, none⟩) l.length cap) ∧ Y.cell? ⟨w.heap.size, 2, none⟩ = some (.int .i64 nw)) (by kernel_rfl) hS0 (fun _ => ?_)
  refine wpAnyH_take (i := 0) (v := Value.pointer (some ⟨w.heap.size, 0, none⟩)) rfl (by kernel_rfl) (by kernel_rfl) (by kernel_rfl) (fun _ _ _ h => h) (Or.inl ⟨by rfl, ?_⟩) hS0 ?_
  · intro w' ⟨s0, s1, s2⟩; go_simp
  refine wpAnyH_take (i := 1) (v := Value.int .i64 e) rfl (by kernel_rfl) (by kernel_rfl) (by kernel_rfl) (fun _ _ _ h => h) (Or.inl ⟨by rfl, ?_⟩) hS0 ?_
  · intro w' ⟨s0, s1, s2⟩; go_simp
  refine wpAnyH_take (i := 2) (v := Value.int .i64 (e + 1)) rfl (by kernel_rfl) (by kernel_rfl) (by kernel_rfl) (fun _ _ _ h => h) (Or.inl ⟨by rfl, ?_⟩) hS0 ?_
  · intro w' ⟨s0, s1, s2⟩; go_simp
  refine wpAnyH_take (i := 3) (v := Value.pointer (some ⟨w.heap.size, 1, none⟩)) rfl (by kernel_rfl) (by kernel_rfl) (by kernel_rfl) (fun _ _ _ h => h) (Or.inl ⟨by rfl, ?_⟩) hS0 ?_
  · intro w' ⟨s0, s1, s2⟩; go_simp
  refine wpAnyH_take (i := 4) (v := Value.slice (some ⟨g, o, none⟩) l.length cap) rfl (by kernel_rfl) (by kernel_rfl) (by kernel_rfl) (fun _ _ _ h => h) (Or.inl ⟨by rfl, ?_⟩) hS0 ?_
  · intro w' ⟨s0, s1, s2⟩; go_simp
  refine wpAnyH_take (i := 5) (v := Value.int .i64 k) rfl (by kernel_rfl) (by kernel_rfl) (by kernel_rfl) (fun _ _ _ h => h) (Or.inl ⟨by rfl, ?_⟩) hS0 ?_
  · intro w' ⟨s0, s1, s2⟩; go_simp
  refine wpAnyH_take (i := 6) (v := Value.slice (some ⟨g, o, none⟩) k cap) rfl (by kernel_rfl) (by kernel_rfl) (by kernel_rfl) (fun _ _ _ h => h) (Or.inl ⟨by rfl, ?_⟩) hS0 ?_
  · intro w' ⟨s0, s1, s2⟩; go_simp
  refine wpAnyH_take (i := 7) (v := Value.pointer (some ⟨w.heap.size, 1, none⟩)) rfl (by kernel_rfl) (by kernel_rfl) (by kernel_rfl) (fun _ _ _ h => h) (Or.inl ⟨by rfl, ?_⟩) hS0 ?_
  · intro w' ⟨s0, s1, s2⟩; go_simp
  refine wpAnyH_take (i := 8) (v := Value.slice (some ⟨g, o, none⟩) l.length cap) rfl (by kernel_rfl) (by kernel_rfl) (by kernel_rfl) (fun _ _ _ h => h) (Or.inl ⟨by rfl, ?_⟩) hS0 ?_
  · intro w' ⟨s0, s1, s2⟩; go_simp
  refine wpAnyH_take (i := 9) (v := Value.int .i64 k) rfl (by kernel_rfl) (by kernel_rfl) (by kernel_rfl) (fun _ _ _ h => h) (Or.inl ⟨by rfl, ?_⟩) hS0 ?_
  · intro w' ⟨s0, s1, s2⟩; go_simp
  refine wpAnyH_take (i := 10) (v := Value.int .i64 ((k : Int) + 1)) rfl (by kernel_rfl) (by kernel_rfl) (by kernel_rfl) (fun _ _ _ h => h) (Or.inl ⟨by rfl, ?_⟩) hS0 ?_
  · intro w' ⟨s0, s1, s2⟩; go_simp
  refine wpAnyH_take (i := 11) (v := Value.slice (some ⟨g, o2, none⟩) (l.length - (k + 1)) (cap - (k + 1))) rfl (by kernel_rfl) (by kernel_rfl) (by kernel_rfl) (fun _ _ _ h => h) (Or.inl ⟨by rfl, ?_⟩) hS0 ?_
  · intro w' ⟨s0, s1, s2⟩; rcases HC2.out with ⟨hcp, rfl⟩ | ⟨hcp, rfl⟩ <;> go_simp
  refine wpAnyH_take (i := 14) (v := Value.pointer (some ⟨w.heap.size, 2, none⟩)) rfl (by kernel_rfl) (by kernel_rfl) (by kernel_rfl) (fun _ _ _ h => h) (Or.inl ⟨by rfl, ?_⟩) hS0 ?_
  · intro w' ⟨s0, s1, s2⟩; go_simp
  refine wpAnyH_take (i := 15) (v := Value.int .i64 nw) rfl (by kernel_rfl) (by kernel_rfl) (by kernel_rfl) (fun _ _ _ h => h) (Or.inl ⟨by rfl, ?_⟩) hS0 ?_
  · intro w' ⟨s0, s1, s2⟩; go_simp
  simp only [List.getElem_toArray, List.getElem_cons_succ, List.getElem_cons_zero, Act.put, List.setIfInBounds_toArray, List.set_cons_zero, List.set_cons_succ]
  clear hS0
  generalize w2.drew = Y0 at *
  refine wpAnyH_ready (rs := [12, 17]) (by kernel_rfl) (by simp) ?_
  refine (AllReadyH.cons rfl (fun K hK => ?ara) (AllReadyH.cons rfl (fun K hK => ?arb) AllReadyH.nil))
  case' ara =>
    simp only [List.getElem_toArray, List.getElem_cons_succ, List.getElem_cons_zero]
    go_simp
    have hy : Below Y0.heap.size Y0 (Y0.alloc (.cells #[.slice (some ⟨g, o, none⟩) k cap, .slice (some ⟨g, o2, none⟩) (l.length - (k + 1)) (cap - (k + 1))] 22)) := (Below.refl _ _).alloc (Nat.le_refl _) _
    have HC0 : Hid ((Y0.alloc (.cells #[.slice (some ⟨g, o, none⟩) k cap, .slice (some ⟨g, o2, none⟩) (l.length - (k + 1)) (cap - (k + 1))] 22)).cell? ⟨Y0.heap.size, 0, none⟩ = some (.slice (some ⟨g, o, none⟩) k cap)) := Lib.hid (by go_simp)
    have HC1 : Hid ((Y0.alloc (.cells #[.slice (some ⟨g, o, none⟩) k cap, .slice (some ⟨g, o2, none⟩) (l.length - (k + 1)) (cap - (k + 1))] 22)).cell? ⟨Y0.heap.size, 1, none⟩ = some (.slice (some ⟨g, o2, none⟩) (l.length - (k + 1)) (cap - (k + 1)))) := Lib.hid (by go_simp)
    have HX1 := Lib.hid (HX0.out.trans (hy.mono HX0.out.size))
    have HLB : Hid (Y0.heap.size < (Y0.alloc (.cells #[.slice (some ⟨g, o, none⟩) k cap, .slice (some ⟨g, o2, none⟩) (l.length - (k + 1)) (cap - (k + 1))] 22)).heap.size) := Lib.hid (by simp)
    refine hK.out _ _ (HS.out _ HX1.out) (fun _ => ?_)
    clear hK hy
    generalize (Y0.alloc (.cells #[.slice (some ⟨g, o, none⟩) k cap, .slice (some ⟨g, o2, none⟩) (l.length - (k + 1)) (cap - (k + 1))] 22)) = Y1 at *
    generalize Y0.heap.size = B at *
    refine wpAnyH_ready (rs := [13, 17]) (by kernel_rfl) (by simp) ?_
    refine (AllReadyH.cons rfl (fun K hK => ?araa) (AllReadyH.cons rfl (fun K hK => ?arab) AllReadyH.nil))
    case' araa =>
      simp only [List.getElem_toArray, List.getElem_cons_succ, List.getElem_cons_zero]
      go_simp
      have hla := HIA.out _ HX1.out
      have hlen1 : (l.take k).length = k := by simp; omega
      have hlen2 : (l.drop (k + 1)).length = l.length - (k + 1) := by simp
      have hcc := concat_p B g o cap g o2 (cap - (k + 1)) (l.take k) (l.drop (k + 1)) Y1 HLB.out (by rw [hlen1]; exact HC0.out) (by rw [hlen2]; exact HC1.out) hla.1 hla.2 (by omega) (by omega)
      refine hcc.mono ?_
      rintro _ Y2 ⟨a3, c3, rfl, ho3, hy⟩
      have HX2 := Lib.hid (HX1.out.trans (hy.mono HX1.out.size))
      have HO2 : Hid (∀ j, (Value.slice a3 (l.take k ++ l.drop (k + 1)).length c3).ownBlock = some j → w.heap.size + 2 ≤ j) := Lib.hid (fun j hj => by
        have h1 := (ho3.lt hj).1
        have h2 := HX1.out.size
        have h3 := HZ.out.z.lt
        omega)
      have HO3 := Lib.hid (ho3.mono (show w.heap.size ≤ Y1.heap.size from Nat.le_trans HZ.out.b.size HX1.out.size))
      clear hy ho3 hla HC0 HC1 HLB hlen1 hlen2 hcc
      have hLL : (l.take k ++ l.drop (k + 1)).length ≤ 1001 := by simp; omega
      generalize l.take k ++ l.drop (k + 1) = L at *
      refine hK.out _ _ (HS.out _ HX2.out) (fun _ => ?_)
      clear hK
      have hS0 := HS.out _ HX2.out
      refine wpAnyH_take (i := 16) (v := Value.agg #[.int .i64 (e + 1), .slice a3 L.length c3, .int .i64 nw]) rfl (by kernel_rfl) (by kernel_rfl) (by kernel_rfl) (fun _ _ _ h => h) (Or.inl ⟨by rfl, ?_⟩) hS0 ?_
      · intro w' ⟨s0, s1, s2⟩; go_simp
      simp only [List.getElem_toArray, List.getElem_cons_succ, List.getElem_cons_zero, Act.put, List.setIfInBounds_toArray, List.set_cons_zero, List.set_cons_succ]
      clear hS0
      refine wpAnyH_ready (rs := [17]) (by kernel_rfl) (by simp) ?_
      refine (AllReadyH.cons rfl (fun K hK => ?_) AllReadyH.nil)
      simp only [List.getElem_toArray, List.getElem_cons_succ, List.getElem_cons_zero]
      go_simp
      have hy : Below Y2.heap.size Y2 (Y2.alloc (.cells #[.int .i64 0, .slice none 0 0, .int .i64 0] 24)) := (Below.refl _ _).alloc (Nat.le_refl _) _
      have HX3 := Lib.hid (HX2.out.trans (hy.mono HX2.out.size))
      have HBX : Hid (RC (Y2.alloc (.cells #[.int .i64 0, .slice none 0 0, .int .i64 0] 24)) Y2.heap.size 0 (.slice none 0 0) 0) := Lib.hid (RC.new _ 0 none 0 0 0 _)
      have hgx : w.heap.size + 2 ≤ Y2.heap.size := by
        have h2 := HX2.out.size
        have h3 := HZ.out.z.lt
        omega
      replace HO2 : Hid (∀ j, (Value.slice a3 L.length c3).ownBlock = some j → w.heap.size + 2 ≤ j ∧ j ≠ Y2.heap.size) := Lib.hid (fun j hj => ⟨HO2.out j hj, by have := (HO3.out.lt hj).2; omega⟩)
      replace HO3 := Lib.hid (HO3.out.below hy)
      refine hK.out _ _ (HS.out _ HX3.out) (fun _ => ?_)
      clear hK hy
      generalize (Y2.alloc (.cells #[.int .i64 0, .slice none 0 0, .int .i64 0] 24)) = Y3 at *
      generalize Y2.heap.size = X at *
    case' arab =>
      simp only [List.getElem_toArray, List.getElem_cons_succ, List.getElem_cons_zero]
      go_simp
      have hy : Below Y1.heap.size Y1 (Y1.alloc (.cells #[.int .i64 0, .slice none 0 0, .int .i64 0] 24)) := (Below.refl _ _).alloc (Nat.le_refl _) _
      have HX2 := Lib.hid (HX1.out.trans (hy.mono HX1.out.size))
      have HBX : Hid (RC (Y1.alloc (.cells #[.int .i64 0, .slice none 0 0, .int .i64 0] 24)) Y1.heap.size 0 (.slice none 0 0) 0) := Lib.hid (RC.new _ 0 none 0 0 0 _)
      have hgx : w.heap.size + 2 ≤ Y1.heap.size := by
        have h2 := HX1.out.size
        have h3 := HZ.out.z.lt
        omega
      replace HC0 := Lib.hid ((hy.cell HLB.out).trans HC0.out)
      replace HC1 := Lib.hid ((hy.cell HLB.out).trans HC1.out)
      replace HLB := Lib.hid (Nat.lt_of_lt_of_le HLB.out hy.size)
      refine hK.out _ _ (HS.out _ HX2.out) (fun _ => ?_)
      clear hK hy
      generalize (Y1.alloc (.cells #[.int .i64 0, .slice none 0 0, .int .i64 0] 24)) = Y2 at *
      generalize Y1.heap.size = X at *
      refine wpAnyH_ready (rs := [13]) (by kernel_rfl) (by simp) ?_
      refine (AllReadyH.cons rfl (fun K hK => ?_) AllReadyH.nil)
      simp only [List.getElem_toArray, List.getElem_cons_succ, List.getElem_cons_zero]
      go_simp
      have hla := HIA.out _ HX2.out
      have hlen1 : (l.take k).length = k := by simp; omega
      have hlen2 : (l.drop (k + 1)).length = l.length - (k + 1) := by simp
      have hcc := concat_p B g o cap g o2 (cap - (k + 1)) (l.take k) (l.drop (k + 1)) Y2 HLB.out (by rw [hlen1]; exact HC0.out) (by rw [hlen2]; exact HC1.out) hla.1 hla.2 (by omega) (by omega)
      refine hcc.mono ?_
      rintro _ Y3 ⟨a3, c3, rfl, ho3, hy⟩
      have HX3 := Lib.hid (HX2.out.trans (hy.mono HX2.out.size))
      have HO2 : Hid (∀ j, (Value.slice a3 (l.take k ++ l.drop (k + 1)).length c3).ownBlock = some j → w.heap.size + 2 ≤ j ∧ j ≠ X) := Lib.hid (fun j hj => by
        have h1 := (ho3.lt hj).1
        have h2 := HX2.out.size
        have h3 := HZ.out.z.lt
        have h4 := HBX.out.lt
        omega)
      have HO3 := Lib.hid (ho3.mono (show w.heap.size ≤ Y2.heap.size from Nat.le_trans HZ.out.b.size HX2.out.size))
      replace HBX := Lib.hid (HBX.out.below hy)
      clear hy ho3 hla HC0 HC1 HLB hlen1 hlen2 hcc
      have hLL : (l.take k ++ l.drop (k + 1)).length ≤ 1001 := by simp; omega
      generalize l.take k ++ l.drop (k + 1) = L at *
      refine hK.out _ _ (HS.out _ HX3.out) (fun _ => ?_)
      clear hK
      have hS0 := HS.out _ HX3.out
      refine wpAnyH_take (i := 16) (v := Value.agg #[.int .i64 (e + 1), .slice a3 L.length c3, .int .i64 nw]) rfl (by kernel_rfl) (by kernel_rfl) (by kernel_rfl) (fun _ _ _ h => h) (Or.inl ⟨by rfl, ?_⟩) hS0 ?_
      · intro w' ⟨s0, s1, s2⟩; go_simp
      simp only [List.getElem_toArray, List.getElem_cons_succ, List.getElem_cons_zero, Act.put, List.setIfInBounds_toArray, List.set_cons_zero, List.set_cons_succ]
      clear hS0
  case' arb =>
    simp only [List.getElem_toArray, List.getElem_cons_succ, List.getElem_cons_zero]
    go_simp
    have hy : Below Y0.heap.size Y0 (Y0.alloc (.cells #[.int .i64 0, .slice none 0 0, .int .i64 0] 24)) := (Below.refl _ _).alloc (Nat.le_refl _) _
    have HX1 := Lib.hid (HX0.out.trans (hy.mono HX0.out.size))
    have HBX : Hid (RC (Y0.alloc (.cells #[.int .i64 0, .slice none 0 0, .int .i64 0] 24)) Y0.heap.size 0 (.slice none 0 0) 0) := Lib.hid (RC.new _ 0 none 0 0 0 _)
    have hgx : w.heap.size + 2 ≤ Y0.heap.size := by
      have h2 := HX0.out.size
      have h3 := HZ.out.z.lt
      omega
    refine hK.out _ _ (HS.out _ HX1.out) (fun _ => ?_)
    clear hK hy
    generalize (Y0.alloc (.cells #[.int .i64 0, .slice none 0 0, .int .i64 0] 24)) = Y1 at *
    generalize Y0.heap.size = X at *
    refine wpAnyH_ready (rs := [12]) (by kernel_rfl) (by simp) ?_
    refine (AllReadyH.cons rfl (fun K hK => ?_) AllReadyH.nil)
    simp only [List.getElem_toArray, List.getElem_cons_succ, List.getElem_cons_zero]
    go_simp
    have hy : Below Y1.heap.size Y1 (Y1.alloc (.cells #[.slice (some ⟨g, o, none⟩) k cap, .slice (some ⟨g, o2, none⟩) (l.length - (k + 1)) (cap - (k + 1))] 22)) := (Below.refl _ _).alloc (Nat.le_refl _) _
    have HC0 : Hid ((Y1.alloc (.cells #[.slice (some ⟨g, o, none⟩) k cap, .slice (some ⟨g, o2, none⟩) (l.length - (k + 1)) (cap - (k + 1))] 22)).cell? ⟨Y1.heap.size, 0, none⟩ = some (.slice (some ⟨g, o, none⟩) k cap)) := Lib.hid (by go_simp)
    have HC1 : Hid ((Y1.alloc (.cells #[.slice (some ⟨g, o, none⟩) k cap, .slice (some ⟨g, o2, none⟩) (l.length - (k + 1)) (cap - (k + 1))] 22)).cell? ⟨Y1.heap.size, 1, none⟩ = some (.slice (some ⟨g, o2, none⟩) (l.length - (k + 1)) (cap - (k + 1)))) := Lib.hid (by go_simp)
    have HX2 := Lib.hid (HX1.out.trans (hy.mono HX1.out.size))
    have HLB : Hid (Y1.heap.size < (Y1.alloc (.cells #[.slice (some ⟨g, o, none⟩) k cap, .slice (some ⟨g, o2, none⟩) (l.length - (k + 1)) (cap - (k + 1))] 22)).heap.size) := Lib.hid (by simp)
    replace HBX := Lib.hid (HBX.out.below hy)
    refine hK.out _ _ (HS.out _ HX2.out) (fun _ => ?_)
    clear hK hy
    generalize (Y1.alloc (.cells #[.slice (some ⟨g, o, none⟩) k cap, .slice (some ⟨g, o2, none⟩) (l.length - (k + 1)) (cap - (k + 1))] 22)) = Y2 at *
    generalize Y1.heap.size = B at *
    refine wpAnyH_ready (rs := [13]) (by kernel_rfl) (by simp) ?_
    refine (AllReadyH.cons rfl (fun K hK => ?_) AllReadyH.nil)
    simp only [List.getElem_toArray, List.getElem_cons_succ, List.getElem_cons_zero]
    go_simp
    have hla := HIA.out _ HX2.out
    have hlen1 : (l.take k).length = k := by simp; omega
    have hlen2 : (l.drop (k + 1)).length = l.length - (k + 1) := by simp
    have hcc := concat_p B g o cap g o2 (cap - (k + 1)) (l.take k) (l.drop (k + 1)) Y2 HLB.out (by rw [hlen1]; exact HC0.out) (by rw [hlen2]; exact HC1.out) hla.1 hla.2 (by omega) (by omega)
    refine hcc.mono ?_
    rintro _ Y3 ⟨a3, c3, rfl, ho3, hy⟩
    have HX3 := Lib.hid (HX2.out.trans (hy.mono HX2.out.size))
    have HO2 : Hid (∀ j, (Value.slice a3 (l.take k ++ l.drop (k + 1)).length c3).ownBlock = some j → w.heap.size + 2 ≤ j ∧ j ≠ X) := Lib.hid (fun j hj => by
      have h1 := (ho3.lt hj).1
      have h2 := HX2.out.size
      have h3 := HZ.out.z.lt
      have h4 := HBX.out.lt
      omega)
    have HO3 := Lib.hid (ho3.mono (show w.heap.size ≤ Y2.heap.size from Nat.le_trans HZ.out.b.size HX2.out.size))
    replace HBX := Lib.hid (HBX.out.below hy)
    clear hy ho3 hla HC0 HC1 HLB hlen1 hlen2 hcc
    have hLL : (l.take k ++ l.drop (k + 1)).length ≤ 1001 := by simp; omega
    generalize l.take k ++ l.drop (k + 1) = L at *
    refine hK.out _ _ (HS.out _ HX3.out) (fun _ => ?_)
    clear hK
    have hS0 := HS.out _ HX3.out
    refine wpAnyH_take (i := 16) (v := Value.agg #[.int .i64 (e + 1), .slice a3 L.length c3, .int .i64 nw]) rfl (by kernel_rfl) (by kernel_rfl) (by kernel_rfl) (fun _ _ _ h => h) (Or.inl ⟨by rfl, ?_⟩) hS0 ?_
    · intro w' ⟨s0, s1, s2⟩; go_simp
    simp only [List.getElem_toArray, List.getElem_cons_succ, List.getElem_cons_zero, Act.put, List.setIfInBounds_toArray, List.set_cons_zero, List.set_cons_succ]
    clear hS0
  all_goals
    have HZ3 := Lib.hid (HZ.out.below HX3.out)
    have hXw : w.heap.size ≤ X := by omega
    have hkeep : ∀ g, g ≠ X → (((Y3.setCell ⟨X, 0, none⟩ (.int .i64 (e + 1))).setCell ⟨X, 1, none⟩ (.slice a3 L.length c3)).setCell ⟨X, 2, none⟩ (.int .i64 nw)).heap[g]? = Y3.heap[g]? := fun g hg => by
      rw [Below.heap_setCell _ _ _ _ (by simpa using hg), Below.heap_setCell _ _ _ _ (by simpa using hg), Below.heap_setCell _ _ _ _ (by simpa using hg)]
    have hb4 : Below w.heap.size w (((Y3.setCell ⟨X, 0, none⟩ (.int .i64 (e + 1))).setCell ⟨X, 1, none⟩ (.slice a3 L.length c3)).setCell ⟨X, 2, none⟩ (.int .i64 nw)) := ((HZ3.out.b.setCell (p := ⟨X, 0, none⟩) hXw (.int .i64 (e + 1))).setCell (p := ⟨X, 1, none⟩) hXw (.slice a3 L.length c3)).setCell (p := ⟨X, 2, none⟩) hXw (.int .i64 nw)
    have HB4 : Hid (RC (((Y3.setCell ⟨X, 0, none⟩ (.int .i64 (e + 1))).setCell ⟨X, 1, none⟩ (.slice a3 L.length c3)).setCell ⟨X, 2, none⟩ (.int .i64 nw)) X (e + 1) (.slice a3 L.length c3) nw) := Lib.hid (rc_put HBX.out _ _ _ _ _)
    have HZ4 : Hid (TwoB w (((Y3.setCell ⟨X, 0, none⟩ (.int .i64 (e + 1))).setCell ⟨X, 1, none⟩ (.slice a3 L.length c3)).setCell ⟨X, 2, none⟩ (.int .i64 nw)) e (some ⟨g, o, none⟩) l.length cap nw l) := Lib.hid ⟨HZ3.out.a.kept (hkeep _ (by omega)), HZ3.out.z.kept (hkeep _ (by omega)), HZ3.out.v.kept (by simp) (fun j hj => hkeep j (by have hj2 : g = j := Option.some.inj hj; have := HIL.out; omega)), hb4⟩
    have HO4 : Hid (IOwn (((Y3.setCell ⟨X, 0, none⟩ (.int .i64 (e + 1))).setCell ⟨X, 1, none⟩ (.slice a3 L.length c3)).setCell ⟨X, 2, none⟩ (.int .i64 nw)) w.heap.size (.slice a3 L.length c3) L) := Lib.hid (HO3.out.kept (fun j hj => hkeep j (HO2.out j hj).2))
    have HSF := Lib.hid HZ4.out.a.1
    obtain ⟨⟨x0, x1, x2⟩, y0, y1, y2⟩ := HBX.out
    clear hkeep hb4
    refine wpAnyH_ready (rs := [18]) (by kernel_rfl) (by simp) ?_
    refine (AllReadyH.cons rfl (fun K hK => ?_) AllReadyH.nil)
    simp only [List.getElem_toArray, List.getElem_cons_succ, List.getElem_cons_zero]
    go_simp
    refine hK.out _ _ HSF.out (fun _ => ?_)
    clear hK x0 x1 x2 y0 y1 y2
    refine wpAnyH_done (by kernel_rfl) ?_ _
    clear HSF HBX HO3 HX3 HZ3 HS HIA
    generalize ((Y3.setCell ⟨X, 0, none⟩ (.int .i64 (e + 1))).setCell ⟨X, 1, none⟩ (.slice a3 L.length c3)).setCell ⟨X, 2, none⟩ (.int .i64 nw) = Y4 at *
    obtain ⟨⟨x0, x1, x2⟩, y0, y1, y2⟩ := HB4.out
    by_cases hnn : nw = n
    · have hq : (nw == n) = true := beq_iff_eq.2 hnn
      rw [if_pos hnn] at HR
      have hk5' : ∀ g, g ≠ X → (Y4.setCell ⟨X, 2, none⟩ (.int .i64 0)).heap[g]? = Y4.heap[g]? := fun g hg => Below.heap_setCell _ _ _ _ (by simpa using hg)
      have HB5 : Hid (RC (Y4.setCell ⟨X, 2, none⟩ (.int .i64 0)) X (e + 1) (.slice a3 L.length c3) 0) := Lib.hid (rc_set2 HB4.out 0)
      have HZ5 : Hid (TwoB w (Y4.setCell ⟨X, 2, none⟩ (.int .i64 0)) e (some ⟨g, o, none⟩) l.length cap nw l) := Lib.hid ⟨HZ4.out.a.kept (hk5' _ (by omega)), HZ4.out.z.kept (hk5' _ (by omega)), HZ4.out.v.kept (by simp) (fun j hj => hk5' j (by have hj2 : g = j := Option.some.inj hj; have := HIL.out; omega)), HZ4.out.b.setCell (p := ⟨X, 2, none⟩) hXw (.int .i64 0)⟩
      have HO5 : Hid (IOwn (Y4.setCell ⟨X, 2, none⟩ (.int .i64 0)) w.heap.size (.slice a3 L.length c3) L) := Lib.hid (HO4.out.kept (fun j hj => hk5' j (HO2.out j hj).2))
      clear hk5' hnn
      go_wp2_with fail
      clear x0 x1 x2 y0 y1 y2
      generalize Y4.setCell ⟨X, 2, none⟩ (.int .i64 0) = Y5 at *
      obtain ⟨⟨x0, x1, x2⟩, _⟩ := HB5.out
      go_wp2_with fail
      cases hc : mayR ⟨e + 1, L, 0⟩ with
      | true =>
        refine (checked_yes (e + 1) 0 a3 c3 L Y5 HO5.out.at (by omega) hc).mono ?_
        rintro _ W6 ⟨rfl, hy⟩
        have HZ6 := Lib.hid (HZ5.out.below hy)
        replace HO5 := Lib.hid (HO5.out.below hy)
        clear hy x0 x1 x2
        have hF := box_facts HZ6.out (e + 1) 0 a3 L.length c3
        dsimp only at hF
        obtain ⟨t0, t1, t2, hB3, hk⟩ := hF
        obtain ⟨⟨d0, d1, d2⟩, f0, f1, f2⟩ := HZ6.out.z
        have HRR : R = (⟨e + 1, L, 0⟩, true) := by rw [← HR.out]; unfold chkR; rw [hc]; rfl
        subst HRR
        go_wp2_with fail
        exact bodyPost_ret (v := .tuple #[.agg #[.int .i64 (e + 1), .slice a3 L.length c3, .int .i64 0], .bool true]) (by simp [results, Tryz.results65, go_sem, t0, t1, t2]) rfl ⟨_, _, rfl, HO5.out.kept (fun g hg => hk g (by have := (HO2.out g hg).1; omega)), hB3⟩
      | false =>
        refine (checked_no (e + 1) 0 a3 c3 L Y5 HO5.out.at (by omega) hc).mono ?_
        rintro _ W6 ⟨rfl, hy⟩
        have HZ6 := Lib.hid (HZ5.out.below hy)
        replace HO5 := Lib.hid (HO5.out.below hy)
        clear hy x0 x1 x2
        have hF := box_facts HZ6.out 0 0 none 0 0
        dsimp only at hF
        obtain ⟨t0, t1, t2, hB3, hk⟩ := hF
        obtain ⟨⟨d0, d1, d2⟩, f0, f1, f2⟩ := HZ6.out.z
        have HRR : R = (Ro.zero, false) := by rw [← HR.out]; unfold chkR; rw [hc]; rfl
        subst HRR
        go_wp2_with fail
        exact bodyPost_ret (v := .tuple #[.agg #[.int .i64 0, .slice none 0 0, .int .i64 0], .bool false]) (by simp [results, Tryz.results65, go_sem, t0, t1, t2]) rfl ⟨_, _, rfl, IOwn.nil _ _, hB3⟩
    · have hq : (nw == n) = false := by rw [beq_eq_false_iff_ne]; exact hnn
      rw [if_neg hnn] at HR
      clear hnn
      have HZ5 := Lib.hid HZ4.out
      have HO5 := Lib.hid HO4.out
      clear HZ4 HO4
      obtain ⟨Y5, hY5⟩ : ∃ Y5, Y4 = Y5 := ⟨_, rfl⟩
      subst hY5
      go_wp2_with fail
      cases hc : mayR ⟨e + 1, L, nw⟩ with
      | true =>
        refine (checked_yes (e + 1) nw a3 c3 L Y4 HO5.out.at (by omega) hc).mono ?_
        rintro _ W6 ⟨rfl, hy⟩
        have HZ6 := Lib.hid (HZ5.out.below hy)
        replace HO5 := Lib.hid (HO5.out.below hy)
        clear hy x0 x1 x2
        have hF := box_facts HZ6.out (e + 1) nw a3 L.length c3
        dsimp only at hF
        obtain ⟨t0, t1, t2, hB3, hk⟩ := hF
        obtain ⟨⟨d0, d1, d2⟩, f0, f1, f2⟩ := HZ6.out.z
        have HRR : R = (⟨e + 1, L, nw⟩, true) := by rw [← HR.out]; unfold chkR; rw [hc]; rfl
        subst HRR
        go_wp2_with fail
        exact bodyPost_ret (v := .tuple #[.agg #[.int .i64 (e + 1), .slice a3 L.length c3, .int .i64 nw], .bool true]) (by simp [results, Tryz.results65, go_sem, t0, t1, t2]) rfl ⟨_, _, rfl, HO5.out.kept (fun g hg => hk g (by have := (HO2.out g hg).1; omega)), hB3⟩
      | false =>
        refine (checked_no (e + 1) nw a3 c3 L Y4 HO5.out.at (by omega) hc).mono ?_
        rintro _ W6 ⟨rfl, hy⟩
        have HZ6 := Lib.hid (HZ5.out.below hy)
        replace HO5 := Lib.hid (HO5.out.below hy)
        clear hy x0 x1 x2
        have hF := box_facts HZ6.out 0 0 none 0 0
        dsimp only at hF
        obtain ⟨t0, t1, t2, hB3, hk⟩ := hF
        obtain ⟨⟨d0, d1, d2⟩, f0, f1, f2⟩ := HZ6.out.z
        have HRR : R = (Ro.zero, false) := by rw [← HR.out]; unfold chkR; rw [hc]; rfl
        subst HRR
        go_wp2_with fail
        exact bodyPost_ret (v := .tuple #[.agg #[.int .i64 0, .slice none 0 0, .int .i64 0], .bool false]) (by simp [results, Tryz.results65, go_sem, t0, t1, t2]) rfl ⟨_, _, rfl, IOwn.nil _ _, hB3⟩
end Go.Proofs.YtaacdggjkfmehaaGreatDoor
