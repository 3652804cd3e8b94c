/-
 Contracts of the program, and what they rest on.
-/
import Derived.Test.YtlajbminbdhpaaaGreatDoorM03
import Derived.Test.YtlajbminbdhpaaaGreatDoorM08
import Derived.Test.YtlajbminbdhpaaaGreatDoorRMark
set_option maxRecDepth 100000
set_option maxHeartbeats 16000000
namespace Go.Proofs.YtlajbminbdhpaaaGreatDoor
open Go.RowKit
def cutVe (x : Ve) : Ve := ⟨x.ver, x.gone, cutS x.body 302⟩
def cutL (l : List Ve) : List Ve := (l.take 14).map cutVe
def cutTo (l : List Ve) (k : Nat) : List Ve := (l.take k).map cutVe ++ l.drop k
theorem cutTo_zero (l : List Ve) : cutTo l 0 = l := by simp [cutTo]
theorem cutTo_len (l : List Ve) (k : Nat) : (cutTo l k).length = l.length := by
 unfold cutTo
 simp
 omega
theorem cutTo_end (l : List Ve) (k : Nat) (h : l.length ≤ k) : cutTo l k = l.map cutVe := by
 unfold cutTo
 rw [List.take_of_length_le h, List.drop_eq_nil_of_le h, List.append_nil]
theorem cutTo_get (l : List Ve) (k : Nat) : (cutTo l k)[k]? = l[k]? := by
 unfold cutTo
 by_cases h : k < l.length
 ·rw [List.getElem?_append_right (by simp; omega)]
  simp
  congr 1
  omega
 ·rw [List.getElem?_eq_none (by simp; omega), List.getElem?_eq_none (by omega)]
theorem cutTo_step (l : List Ve) (k : Nat) (x : Ve) (h : l[k]? = some x) : cutTo l (k + 1) = (cutTo l k).set k (cutVe x) := by
 have hk : k < l.length := (List.getElem?_eq_some_iff.1 h).1
 unfold cutTo
 rw [List.set_append_right _ _ (by simp; omega), List.take_add_one, h, List.drop_eq_getElem_cons hk]
 have : ((l.take k).map cutVe).length = k := by simp; omega
 rw [this, Nat.sub_self, List.set_cons_zero]
 simp
theorem vcells_set : ∀ (l : List Ve) (k : Nat) (x : Ve) (b : ByteArray), l[k]? = some x → vcells (l.set k ⟨x.ver, x.gone, b⟩) = (vcells l).set (k * 3 + 2) (.string b)
 | [], k, x, b, h => by simp at h
 | y :: r, 0, x, b, h => by
  simp at h
  subst h
  rfl
 | y :: r, k + 1, x, b, h => by
  have := vcells_set r k x b (by simpa using h)
  rw [show (k + 1) * 3 + 2 = (k * 3 + 2) + 1 + 1 + 1 by omega]
  show _ :: _ :: _ :: vcells (r.set k _) = _
  rw [this]
  rfl
theorem vown_set {w : World} {B g n cap : Nat} {l : List Ve} (h : VOwn w B (.slice (some ⟨g, 0, none⟩) n cap) l) {k : Nat} {x : Ve} (hx : l[k]? = some x) (b : ByteArray) :
  VOwn (w.setCell ⟨g, k * 3 + 2, none⟩ (.string b)) B (.slice (some ⟨g, 0, none⟩) n cap) (l.set k ⟨x.ver, x.gone, b⟩) := by
 obtain ⟨h1, h2⟩ := h
 unfold VOwn
 rw [vcells_set l k x b hx, List.length_set]
 refine ⟨by rw [List.length_set]; exact h1, ?_⟩
 rcases h2 with ⟨h2, _⟩ | ⟨g', cap', cur, hv, hg, hh, hn, hm, hs, ht⟩
 ·cases h2
 ·cases hv
  refine .inr ⟨g, cap, cur.setIfInBounds (k * 3 + 2) (.string b), rfl, hg, ?_, hn, hm, by simpa using hs, ?_⟩
  ·have hlt := lt_of_block hh
   have h' : w.heap[g] = .cells cur 26 (0, 0) := by simpa [Array.getElem?_eq_getElem hlt] using hh
   show (w.heap.modify g _)[g]? = _
   rw [Array.getElem?_eq_getElem (by simpa using hlt), Array.getElem_modify_self, h']
   rfl
  ·rw [Array.toList_setIfInBounds, List.take_set, ht]
theorem vown_free {w : World} {B g n cap : Nat} {l : List Ve} (h : VOwn w B (.slice (some ⟨g, 0, none⟩) n cap) l) (o : Nat) : w.frozen? ⟨g, o, none⟩ = false := by
 rcases h.2 with ⟨h2, _⟩ | ⟨g', cap', cur, hv, hg, hh, _⟩
 ·cases h2
 ·cases hv
  unfold World.frozen?
  simp [hh]
theorem vown_row {w : World} {B : Nat} {v : Value} {l : List Ve} (h : VOwn w B v l) (hl : 0 < l.length) : ∃ g cap, v = .slice (some ⟨g, 0, none⟩) l.length cap := by
 rcases h.2 with ⟨_, h2⟩ | ⟨g', cap', cur, hv, _⟩
 ·omega
 ·exact ⟨g', cap', hv⟩
theorem vown_get {w : World} {B g n cap : Nat} {l : List Ve} (h : VOwn w B (.slice (some ⟨g, 0, none⟩) n cap) l) {k : Nat} {x : Ve} (hx : l[k]? = some x) :
  w.cell? ⟨g, k * 3, none⟩ = some (.int .i64 x.ver) ∧ w.cell? ⟨g, k * 3 + 1, none⟩ = some (.bool x.gone) ∧ w.cell? ⟨g, k * 3 + 2, none⟩ = some (.string x.body) := by
 have hc := World.ownsRow.cells h (g := g) rfl
 obtain ⟨v0, v1, v2⟩ := vcells_get l k x hx
 have g0 := hc _ _ v0
 have g1 := hc _ _ v1
 have g2 := hc _ _ v2
 rw [Addr.add_lit, Nat.zero_add] at g0 g1 g2
 exact ⟨g0, g1, g2⟩
theorem ec_put1 {w : World} {b : Nat} {key : ByteArray} {v : Value} (h : EC w b key v) (v' : Value) : EC (w.setCell ⟨b, 1, none⟩ v') b key v' := by
 obtain ⟨⟨h0, h1⟩, f0, f1⟩ := h
 refine ⟨⟨?_, ?_⟩, ?_, ?_⟩ <;> go_simp
theorem take_min (l : List Ve) : l.take 14 = l.take (min l.length 14) := by
 by_cases e : l.length ≤ 14
 ·rw [Nat.min_eq_left e, List.take_of_length_le e, List.take_of_length_le (Nat.le_refl _)]
 ·rw [Nat.min_eq_right (by omega)]
theorem lentry_some (key : ByteArray) (l : List Ve) (g o cap : Nat) (w : World) (h1 : l.length ≤ cap) (h3 : g < w.heap.size) (h4 : VeAt w g o l) (hn : l.length ≤ 9223372036854775807) :
  Calls Tryz.prog 5 #[.agg #[.string key, .slice (some ⟨g, o, none⟩) l.length cap]] w fun e w' => ∃ ad' cap', e = .returned (.agg #[.string (cutS key 42), .slice ad' (cutL l).length cap']) ∧ VOwn w' w.heap.size (.slice ad' (cutL l).length cap') (cutL l) ∧ Below w.heap.size w w' := by
 obtain ⟨i0, hi, hz0, hz1, hz2⟩ := info_v
 have C1 := Lib.hid (cut_any key 42)
 have A : Aside (VeAt w g o l) := h4
 obtain ⟨m, hm⟩ : ∃ m, min l.length 14 = m := ⟨_, rfl⟩
 have hmz : min (l.length : Int) 14 = (m : Int) := by omega
 have hml : m ≤ l.length := by omega
 have hmc : m ≤ cap := by omega
 have hm0 : (0 : Int) ≤ (m : Int) := by omega
 have hmcz : (m : Int) ≤ (cap : Int) := by omega
 have hlen : (vcells (l.take m)).length = m * 3 := by rw [vcells_length, List.length_take, Nat.min_eq_left hml]
 have hone := vcells_one (l.take m)
 have hL : Hid (cutL l = (l.take m).map cutVe ∧ (l.take m).length = m) := Lib.hid ⟨by unfold cutL; rw [← hm, ← take_min], by rw [List.length_take, Nat.min_eq_left hml]⟩
 have hcells : Hid (∀ W : World, Below w.heap.size w W → ∀ j u, (vcells (l.take m))[j]? = some u → W.cell? ((⟨g, o, none⟩ : Addr).add j) = some u) := Lib.hid (fun W hW j u hj => by
  rw [Addr.add_lit]
  have ht : VeAt W g o (l.take m) := fun k y hy => by
   rw [List.getElem?_take] at hy
   split at hy
   ·have e := hW.block g h3
    exact VeAt.kept h4 e k y hy
   ·cases hy
  exact ht.cells j u hj)
 generalize hK : cutS key 42 = K at *
 clear h4 hK hm
 go_enter Tryz.func5, Tryz.ntmps5
 go_wp2_with fail
 refine (C1.out _).mono ?_
 rintro _ _ ⟨rfl, rfl⟩
 have hbW : Below w.heap.size w ((w.alloc (.cells #[.string K, .slice (some ⟨g, o, none⟩) l.length cap] 24)).alloc (.cells #[.string ⟨#[]⟩, .slice none 0 0] 24)) := ((Below.refl _ w).alloc (Nat.le_refl _) _).alloc (by simp) _
 have h1E : EC ((w.alloc (.cells #[.string K, .slice (some ⟨g, o, none⟩) l.length cap] 24)).alloc (.cells #[.string ⟨#[]⟩, .slice none 0 0] 24)) w.heap.size K (.slice (some ⟨g, o, none⟩) l.length cap) := (EC.new w K (some ⟨g, o, none⟩) l.length cap _).alloc _
 have h2E : EC ((w.alloc (.cells #[.string K, .slice (some ⟨g, o, none⟩) l.length cap] 24)).alloc (.cells #[.string ⟨#[]⟩, .slice none 0 0] 24)) (w.heap.size + 1) ⟨#[]⟩ (.slice none 0 0) := by
  have := EC.new (w.alloc (.cells #[.string K, .slice (some ⟨g, o, none⟩) l.length cap] 24)) ⟨#[]⟩ none 0 0 24
  simpa using this
 have HE := Lib.hid (And.intro h1E (And.intro h2E hbW))
 clear h1E h2E hbW
 go_wp2_with (at_builtin; refine wpList_append_own _ rfl _ _ 22 rfl (w.heap.size + 2) 26 i0 _ 3 32 Tryz.underlying22 hi hz0 hz1 hz2 rfl (by decide) (.slice none 0 0) 0 [] rfl (World.ownsRow_nil _ _ _ _) ⟨g, o, none⟩ m cap (vcells (l.take m)) rfl ?qc1 ?qc2 ?qc3 ?qc4 ?qc5 ?qc6 ?_)
 case qc1 => exact hlen
 case qc2 => exact hcells.out _ HE.out.2.2
 case qc3 => exact hone
 case qc4 => rw [Nat.zero_add]; unfold maxLen; omega
 case qc5 => rw [Nat.zero_add]; omega
 case qc6 => simp
 intro v' w1 hown hgrow hnil
 have ho : VOwn w1 (w.heap.size + 2) v' (l.take m) := by unfold VOwn; rw [hL.out.2]; exact hown
 have hbg : Below ((w.alloc (.cells #[.string K, .slice (some ⟨g, o, none⟩) l.length cap] 24)).alloc (.cells #[.string ⟨#[]⟩, .slice none 0 0] 24)).heap.size ((w.alloc (.cells #[.string K, .slice (some ⟨g, o, none⟩) l.length cap] 24)).alloc (.cells #[.string ⟨#[]⟩, .slice none 0 0] 24)) w1 := (Below.refl _ _).grown hgrow (Nat.le_refl _) (by intro k hk; simp [Value.ownBlock] at hk)
 obtain ⟨ad', cap', rfl⟩ := ho.shape
 rw [hL.out.2] at ho hnil
 have HE1 := Lib.hid (And.intro (HE.out.1.below hbg) (And.intro (HE.out.2.1.below hbg) (HE.out.2.2.trans (hbg.mono HE.out.2.2.size))))
 rw [hL.out.2]
 have hml2 : m ≤ 14 := by omega
 have HLL := Lib.hid (And.intro hL.out (And.intro ho hml2))
 clear hown hgrow hnil hbg ho HE hcells hlen hone A C1 hi hz0 hz1 hz2 h1 h3
 generalize l.take m = L at *
 obtain ⟨⟨c0, c1⟩, f0, f1⟩ := HE1.out.1
 go_wp2_with fail
 have hE2 := ec_put1 HE1.out.1 (.slice ad' m cap')
 have hE3 : EC (w1.setCell ⟨w.heap.size, 1, none⟩ (.slice ad' m cap')) (w.heap.size + 1) ⟨#[]⟩ (.slice none 0 0) := HE1.out.2.1.kept (Below.heap_setCell _ _ _ _ (by simp))
 have hV2 : VOwn (w1.setCell ⟨w.heap.size, 1, none⟩ (.slice ad' m cap')) (w.heap.size + 2) (.slice ad' m cap') L := HLL.out.2.1.kept (fun g hg => Below.heap_setCell _ _ _ _ (by have := (HLL.out.2.1.lt hg).1; simp; omega))
 have HX := Lib.hid (And.intro hE2 (And.intro hE3 (And.intro hV2 (HE1.out.2.2.setCell (p := ⟨w.heap.size, 1, none⟩) (Nat.le_refl _) (.slice ad' m cap')))))
 clear hE2 hE3 hV2 c0 c1 f0 f1
 generalize w1.setCell ⟨w.heap.size, 1, none⟩ (.slice ad' m cap') = W2 at *
 go_loopw [3, 20] (fun _ cv wr => ∃ k : Nat, cv = .int .i64 k ∧ k ≤ m ∧ Hid (EC wr w.heap.size K (.slice ad' m cap')) ∧ Hid (EC wr (w.heap.size + 1) ⟨#[]⟩ (.slice none 0 0)) ∧ Hid (VOwn wr (w.heap.size + 2) (.slice ad' m cap') (cutTo L k)) ∧ Hid (Below w.heap.size w wr)) (fun _ cv _ => m - (intOf cv).toNat)
 case atStart => exact ⟨0, rfl, Nat.zero_le _, Lib.hid HX.out.1, Lib.hid HX.out.2.1, Lib.hid (by rw [cutTo_zero]; exact HX.out.2.2.1), Lib.hid HX.out.2.2.2⟩
 case round =>
  obtain ⟨k, rfl, hk, H1, H2, H3, H4⟩ := hrel
  by_cases hlt : k < m
  ·have hltz : (k : Int) < (m : Int) := by omega
   have hLm : L.length = m := HLL.out.1.2
   obtain ⟨x, hx⟩ : ∃ x, L[k]? = some x := ⟨_, List.getElem?_eq_getElem (by omega)⟩
   obtain ⟨g', cc, hsl⟩ := vown_row H3.out (by rw [cutTo_len]; omega)
   simp only [Value.slice.injEq] at hsl
   obtain ⟨rfl, -, rfl⟩ := hsl
   have hx2 : (cutTo L k)[k]? = some x := by rw [cutTo_get]; exact hx
   obtain ⟨x0, x1, x2⟩ := vown_get H3.out hx2
   have fx := vown_free H3.out (k * 3 + 2)
   have hg2 := (H3.out.lt (g := g') rfl).1
   have hV3 := vown_set H3.out hx2 (cutS x.body 302)
   have hst : (cutTo L k).set k ⟨x.ver, x.gone, cutS x.body 302⟩ = cutTo L (k + 1) := (cutTo_step L k x hx).symm
   rw [hst] at hV3
   have HV3 := Lib.hid hV3
   have C2 := Lib.hid (cut_any x.body 302)
   clear hV3 hst hx hx2 hLm
   generalize cutS x.body 302 = BD at *
   obtain ⟨⟨c0, c1⟩, f0, f1⟩ := H1.out
   go_wp2_with fail
   refine wp_region_D (S := fun L Y => L.getD 12 false = false → (Y.cell? ⟨w.heap.size, 1, none⟩ = some (.slice (some ⟨g', 0, none⟩) m cap') ∧ Y.cell? ⟨g', k * 3 + 2, none⟩ = some (.string x.body))) (by kernel_rfl) (fun _ => ⟨c1, x2⟩) (fun hS0 => ?_)
   refine wpAnyD_take (i := 0) (v := Value.pointer (some ⟨w.heap.size, 1, none⟩)) rfl (by kernel_rfl) (by kernel_rfl) (by kernel_rfl) (by kernel_rfl) (fun _ _ _ h => h) (fun L w => by simp only [getD_set_ne false (by decide : (0 : Nat) ≠ 12)]) (by kernel_rfl) hS0 ⟨by rfl, fun L w' hL hD hS => ?_⟩ (fun hS0 => ?_)
   ·refine .inl ?_
    go_simp
   refine wpAnyD_take (i := 1) (v := Value.slice (some ⟨g', 0, none⟩) m cap') rfl (by kernel_rfl) (by kernel_rfl) (by kernel_rfl) (by kernel_rfl) (fun _ _ _ h => h) (fun L w => by simp only [getD_set_ne false (by decide : (1 : Nat) ≠ 12)]) (by kernel_rfl) hS0 ⟨by rfl, fun L w' hL hD hS => ?_⟩ (fun hS0 => ?_)
   ·have hh := (hS (blocked (j := 12) hD hL (by kernel_rfl))).1
    refine .inl ?_
    go_simp
   refine wpAnyD_take (i := 2) (v := Value.int .i64 k) rfl (by kernel_rfl) (by kernel_rfl) (by kernel_rfl) (by kernel_rfl) (fun _ _ _ h => h) (fun L w => by simp only [getD_set_ne false (by decide : (2 : Nat) ≠ 12)]) (by kernel_rfl) hS0 ⟨by rfl, fun L w' hL hD hS => ?_⟩ (fun hS0 => ?_)
   ·refine .inl ?_
    go_simp
   refine wpAnyD_take (i := 3) (v := Value.pointer (some ⟨w.heap.size, 1, none⟩)) rfl (by kernel_rfl) (by kernel_rfl) (by kernel_rfl) (by kernel_rfl) (fun _ _ _ h => h) (fun L w => by simp only [getD_set_ne false (by decide : (3 : Nat) ≠ 12)]) (by kernel_rfl) hS0 ⟨by rfl, fun L w' hL hD hS => ?_⟩ (fun hS0 => ?_)
   ·refine .inl ?_
    go_simp
   refine wpAnyD_take (i := 4) (v := Value.slice (some ⟨g', 0, none⟩) m cap') rfl (by kernel_rfl) (by kernel_rfl) (by kernel_rfl) (by kernel_rfl) (fun _ _ _ h => h) (fun L w => by simp only [getD_set_ne false (by decide : (4 : Nat) ≠ 12)]) (by kernel_rfl) hS0 ⟨by rfl, fun L w' hL hD hS => ?_⟩ (fun hS0 => ?_)
   ·have hh := (hS (blocked (j := 12) hD hL (by kernel_rfl))).1
    refine .inl ?_
    go_simp
   refine wpAnyD_take (i := 5) (v := Value.int .i64 k) rfl (by kernel_rfl) (by kernel_rfl) (by kernel_rfl) (by kernel_rfl) (fun _ _ _ h => h) (fun L w => by simp only [getD_set_ne false (by decide : (5 : Nat) ≠ 12)]) (by kernel_rfl) hS0 ⟨by rfl, fun L w' hL hD hS => ?_⟩ (fun hS0 => ?_)
   ·refine .inl ?_
    go_simp
   refine wpAnyD_take (i := 6) (v := Value.pointer (some ⟨g', k * 3, none⟩)) rfl (by kernel_rfl) (by kernel_rfl) (by kernel_rfl) (by kernel_rfl) (fun _ _ _ h => h) (fun L w => by simp only [getD_set_ne false (by decide : (6 : Nat) ≠ 12)]) (by kernel_rfl) hS0 ⟨by rfl, fun L w' hL hD hS => ?_⟩ (fun hS0 => ?_)
   ·refine .inl ?_
    go_simp
   refine wpAnyD_take (i := 7) (v := Value.pointer (some ⟨g', k * 3 + 2, none⟩)) rfl (by kernel_rfl) (by kernel_rfl) (by kernel_rfl) (by kernel_rfl) (fun _ _ _ h => h) (fun L w => by simp only [getD_set_ne false (by decide : (7 : Nat) ≠ 12)]) (by kernel_rfl) hS0 ⟨by rfl, fun L w' hL hD hS => ?_⟩ (fun hS0 => ?_)
   ·refine .inl ?_
    go_simp
   refine wpAnyD_take (i := 8) (v := Value.string x.body) rfl (by kernel_rfl) (by kernel_rfl) (by kernel_rfl) (by kernel_rfl) (fun _ _ _ h => h) (fun L w => by simp only [getD_set_ne false (by decide : (8 : Nat) ≠ 12)]) (by kernel_rfl) hS0 ⟨by rfl, fun L w' hL hD hS => ?_⟩ (fun hS0 => ?_)
   ·have hh := (hS (blocked (j := 12) hD hL (by kernel_rfl))).2
    refine .inl ?_
    go_simp
   refine wpAnyD_take (i := 9) (v := Value.string BD) rfl (by kernel_rfl) (by kernel_rfl) (by kernel_rfl) (by kernel_rfl) (fun _ _ _ h => h) (fun L w => by simp only [getD_set_ne false (by decide : (9 : Nat) ≠ 12)]) (by kernel_rfl) hS0 ⟨by rfl, fun L w' hL hD hS => ?_⟩ (fun hS0 => ?_)
   ·refine .inr ⟨_, _, by first | rfl | (go_simp; rfl) | go_simp, (C2.out w').mono (fun e w'' h => ⟨h.1, h.2⟩)⟩
   refine wpAnyD_take (i := 10) (v := Value.pointer (some ⟨g', k * 3, none⟩)) rfl (by kernel_rfl) (by kernel_rfl) (by kernel_rfl) (by kernel_rfl) (fun _ _ _ h => h) (fun L w => by simp only [getD_set_ne false (by decide : (10 : Nat) ≠ 12)]) (by kernel_rfl) hS0 ⟨by rfl, fun L w' hL hD hS => ?_⟩ (fun hS0 => ?_)
   ·refine .inl ?_
    go_simp
   refine wpAnyD_take (i := 11) (v := Value.pointer (some ⟨g', k * 3 + 2, none⟩)) rfl (by kernel_rfl) (by kernel_rfl) (by kernel_rfl) (by kernel_rfl) (fun _ _ _ h => h) (fun L w => by simp only [getD_set_ne false (by decide : (11 : Nat) ≠ 12)]) (by kernel_rfl) hS0 ⟨by rfl, fun L w' hL hD hS => ?_⟩ (fun hS0 => ?_)
   ·refine .inl ?_
    go_simp
   simp only [List.getElem_toArray, List.getElem_cons_succ, List.getElem_cons_zero, Act.put, List.setIfInBounds_toArray, List.set_cons_zero, List.set_cons_succ]
   refine wpAnyD_one (i := 12) (by kernel_rfl) rfl (by kernel_rfl) (fun K hK => ?_)
   simp only [List.getElem_toArray, List.getElem_cons_succ, List.getElem_cons_zero]
   go_simp
   refine hK.out _ _ (fun h => (by cases h)) (fun hS0 => ?_)
   clear hK hS0
   refine wpAnyD_done (by kernel_rfl) ?_ _
   go_wp2_with fail
   go_roundw
   case rel =>
    refine ⟨k + 1, by go_num, by omega, Lib.hid ?_, Lib.hid ?_, Lib.hid ?_, Lib.hid ?_⟩
    ·exact (H1.out.kept (w' := (wr.setCell ⟨g', k * 3 + 2, none⟩ (.string BD)).drew) (show (wr.setCell ⟨g', k * 3 + 2, none⟩ (.string BD)).heap[w.heap.size]? = _ from Below.heap_setCell _ _ _ _ (by simp; omega)))
    ·exact (H2.out.kept (w' := (wr.setCell ⟨g', k * 3 + 2, none⟩ (.string BD)).drew) (show (wr.setCell ⟨g', k * 3 + 2, none⟩ (.string BD)).heap[w.heap.size + 1]? = _ from Below.heap_setCell _ _ _ _ (by simp; omega)))
    ·exact HV3.out.kept (w' := (wr.setCell ⟨g', k * 3 + 2, none⟩ (.string BD)).drew) (fun _ _ => rfl)
    ·exact (H4.out.setCell (p := ⟨g', k * 3 + 2, none⟩) (by simp; omega) (.string BD)).drew
   case measure => simp [intOf]; omega
  ·have hltz : ¬ (k : Int) < (m : Int) := by omega
   have hkm : k = m := by omega
   subst hkm
   have hend : VOwn wr (w.heap.size + 2) (.slice ad' k cap') (L.map cutVe) := by
    have := H3.out
    rw [cutTo_end L k (by rw [HLL.out.1.2]; exact Nat.le_refl _)] at this
    exact this
   have hlen3 : (cutL l).length = k := by rw [HLL.out.1.1, List.length_map, HLL.out.1.2]
   have HEN := Lib.hid (And.intro hend (And.intro HLL.out.1.1 hlen3))
   obtain ⟨⟨c0, c1⟩, f0, f1⟩ := H1.out
   obtain ⟨⟨d0, d1⟩, e0, e1⟩ := H2.out
   clear hend hlen3
   go_wp2_with fail
   have t0 : ((wr.setCell ⟨w.heap.size + 1, 0, none⟩ (.string K)).setCell ⟨w.heap.size + 1, 1, none⟩ (.slice ad' k cap')).cell? ⟨w.heap.size + 1, 0, none⟩ = some (.string K) := by go_simp
   have t1 : ((wr.setCell ⟨w.heap.size + 1, 0, none⟩ (.string K)).setCell ⟨w.heap.size + 1, 1, none⟩ (.slice ad' k cap')).cell? ⟨w.heap.size + 1, 1, none⟩ = some (.slice ad' k cap') := by go_simp
   have hV := (HEN.out.1.kept (w' := (wr.setCell ⟨w.heap.size + 1, 0, none⟩ (.string K)).setCell ⟨w.heap.size + 1, 1, none⟩ (.slice ad' k cap')) (fun g hg => by
    have := (HEN.out.1.lt hg).1
    rw [Below.heap_setCell _ _ _ _ (by simp; omega), Below.heap_setCell _ _ _ _ (by simp; omega)])).mono (show w.heap.size ≤ w.heap.size + 2 by omega)
   have hB := (H4.out.setCell (p := ⟨w.heap.size + 1, 0, none⟩) (by simp) (.string K)).setCell (p := ⟨w.heap.size + 1, 1, none⟩) (by simp) (.slice ad' k cap')
   exact bodyPost_ret (v := .agg #[.string K, .slice ad' k cap']) (by simp [results, Tryz.results5, go_sem, t0, t1]) rfl ⟨ad', cap', by rw [HEN.out.2.2], by rw [HEN.out.2.2, HEN.out.2.1]; exact hV, hB⟩
theorem lentry_none (key : ByteArray) (w : World) :
  Calls Tryz.prog 5 #[.agg #[.string key, .slice none 0 0]] w fun e w' => e = .returned (.agg #[.string (cutS key 42), .slice none 0 0]) ∧ Below w.heap.size w w' := by
 obtain ⟨i0, hi, hz0, hz1, hz2⟩ := info_v
 have hrun : ∀ (ty : TypeId) (W : World), (Builtin.append_ #[22, 22] ty #[.slice none 0 0, .slice none 0 0]).run Tryz.prog W = .ok (.slice none 0 0) W := fun ty W => by
  simp [Builtin.append_, run_underlying Tryz.underlying22, sizeOf, typeInfo, hi, Builtin.lenOf, run_firstCells_none]
 have C1 := Lib.hid (cut_any key 42)
 have hmin : min (0 : Int) 14 = 0 := by decide
 generalize cutS key 42 = K at *
 go_enter Tryz.func5, Tryz.ntmps5
 go_wp2_with fail
 refine (C1.out _).mono ?_
 rintro _ _ ⟨rfl, rfl⟩
 have hb : Below w.heap.size w ((w.alloc (.cells #[.string K, .slice none 0 0] 24)).alloc (.cells #[.string ⟨#[]⟩, .slice none 0 0] 24)) := ((Below.refl _ w).alloc (Nat.le_refl _) _).alloc (by simp) _
 have h1 : EC ((w.alloc (.cells #[.string K, .slice none 0 0] 24)).alloc (.cells #[.string ⟨#[]⟩, .slice none 0 0] 24)) w.heap.size K (.slice none 0 0) := (EC.new w K none 0 0 _).alloc _
 have h2 : EC ((w.alloc (.cells #[.string K, .slice none 0 0] 24)).alloc (.cells #[.string ⟨#[]⟩, .slice none 0 0] 24)) (w.heap.size + 1) ⟨#[]⟩ (.slice none 0 0) := by
  have := EC.new (w.alloc (.cells #[.string K, .slice none 0 0] 24)) ⟨#[]⟩ none 0 0 24
  simpa using this
 have HX := Lib.hid (And.intro h1 (And.intro h2 hb))
 clear h1 h2 hb
 go_wp2_with fail
 generalize (w.alloc (.cells #[.string K, .slice none 0 0] 24)).alloc (.cells #[.string ⟨#[]⟩, .slice none 0 0] 24) = W at *
 go_loopw [20] (fun cv wr => cv = .int .i64 0 ∧ wr = W) (fun _ _ => 0)
 case atStart => exact ⟨by first | rfl | trivial, by first | rfl | trivial⟩
 case round =>
  obtain ⟨rfl, rfl⟩ := hrel
  obtain ⟨⟨c0, c1⟩, f0, f1⟩ := HX.out.1
  obtain ⟨⟨d0, d1⟩, e0, e1⟩ := HX.out.2.1
  go_wp2_with fail
  have t0 : ((wr.setCell ⟨w.heap.size + 1, 0, none⟩ (.string K)).setCell ⟨w.heap.size + 1, 1, none⟩ (.slice none 0 0)).cell? ⟨w.heap.size + 1, 0, none⟩ = some (.string K) := by go_simp
  have t1 : ((wr.setCell ⟨w.heap.size + 1, 0, none⟩ (.string K)).setCell ⟨w.heap.size + 1, 1, none⟩ (.slice none 0 0)).cell? ⟨w.heap.size + 1, 1, none⟩ = some (.slice none 0 0) := by go_simp
  have hB := (HX.out.2.2.setCell (p := ⟨w.heap.size + 1, 0, none⟩) (by simp) (.string K)).setCell (p := ⟨w.heap.size + 1, 1, none⟩) (by simp) (.slice none 0 0)
  exact bodyPost_ret (v := .agg #[.string K, .slice none 0 0]) (by simp [results, Tryz.results5, go_sem, t0, t1]) rfl ⟨rfl, hB⟩
theorem lentry_p (key : ByteArray) (v : Value) (l : List Ve) (w : World) (h : VsAt w v l) (hn : l.length ≤ 9223372036854775807) :
  Calls Tryz.prog 5 #[.agg #[.string key, v]] w fun e w' => ∃ ad' cap', e = .returned (.agg #[.string (cutS key 42), .slice ad' (cutL l).length cap']) ∧ VOwn w' w.heap.size (.slice ad' (cutL l).length cap') (cutL l) ∧ Below w.heap.size w w' := by
 rcases h with ⟨rfl, rfl⟩ | ⟨g, o, cap, rfl, h1, -, h3, h4⟩
 ·refine (lentry_none key w).mono ?_
  rintro _ w' ⟨rfl, hb⟩
  exact ⟨none, 0, rfl, World.ownsRow_nil _ _ _ _, hb⟩
 ·exact lentry_some key l g o cap w h1 h3 h4 hn
end Go.Proofs.YtlajbminbdhpaaaGreatDoor
