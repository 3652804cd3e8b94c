/-
  The contracts of book's Names where its one key is gone, and of Versions, at a book of one key.
-/
import Derived.Test.YtoealjcjpjapkaaGreatDoorM29
import Derived.Test.YtoealjcjpjapkaaGreatDoorM19
import Derived.Test.YtoealjcjpjapkaaGreatDoorDelE
import Derived.Test.YtoealjcjpjapkaaGreatDoorM30
namespace Go.Proofs.YtoealjcjpjapkaaGreatDoor
open Go.Shelf Go.RowKit

/-- One entry in a row of the call's own. -/
def OwnE (w : World) (B : Nat) (v : Value) (e0 : En) : Prop := ∃ y, w.ownsRow B 58 2 v 1 (ecells [(⟨#[107]⟩, y)]) ∧ VsAt w y e0.vs ∧ e0.key = ⟨#[107]⟩

theorem OwnE.at {w : World} {B : Nat} {v : Value} {e0 : En} (h : OwnE w B v e0) : EsAt w v [e0] := by
  obtain ⟨y, h1, h2, h3⟩ := h
  exact row_esat (ps := [(⟨#[107]⟩, y)]) h1 ⟨h3.symm, h2, trivial⟩

theorem OwnE.below {w w' : World} {B : Nat} {v : Value} {e0 : En} (h : OwnE w B v e0) (hb : Below w.heap.size w w') : OwnE w' B v e0 := by
  obtain ⟨y, h1, h2, h3⟩ := h
  exact ⟨y, owns_below h1 hb, h2.below hb, h3⟩

theorem OwnE.shape {w : World} {B : Nat} {v : Value} {e0 : En} (h : OwnE w B v e0) : ∃ g cap, v = .slice (some ⟨g, 0, none⟩) 1 cap ∧ B ≤ g ∧ g < w.heap.size ∧ (∀ j, j < 2 → (w.cell? ⟨g, 0 + j, none⟩).isSome = true) ∧ (∀ j, j < 2 → w.frozen? ⟨g, 0 + j, none⟩ = false) := by
  obtain ⟨y, h1, _, _⟩ := h
  rcases h1.2 with ⟨_, h0⟩ | ⟨g, cap, cur, rfl, hB, hg, hn, hm, hs, ht⟩
  · cases h0
  · obtain ⟨b1, b2, _⟩ := block_facts hg
    exact ⟨g, cap, rfl, hB, (Array.getElem?_eq_some_iff.1 hg).1, fun j hj => by rw [Nat.zero_add]; exact b1 j (by omega), fun j _ => b2 _⟩

/-- What behind's loop keeps. -/
def B1Own (w W0 : World) (e0 : En) (vv iv : Value) (wr : World) : Prop :=
  (iv = .int .i64 0 ∧ vv = .slice (some ⟨w.heap.size + 1, 0, none⟩) 0 0 ∧ wr = W0) ∨ (iv = .int .i64 1 ∧ ∃ a c, vv = .slice a 1 c ∧ Hid (OwnE wr w.heap.size (.slice a 1 c) e0) ∧ Hid (Below w.heap.size w wr))

set_option maxRecDepth 100000 in
set_option maxHeartbeats 4000000 in
theorem behind1o (s : Bk) (e0 : En) (u v : Value) (w : World) (h : BAt w s u v) (hl : s.l = [e0]) (hk : e0.key = ⟨#[107]⟩) :
    Calls Tryz.prog 87 #[bagg s u v, .string ⟨#[]⟩, .string ⟨#[]⟩] w fun e w' => ∃ ad cap, e = .returned (.slice ad 1 cap) ∧ OwnE w' w.heap.size (.slice ad 1 cap) e0 ∧ Below w.heap.size w w' := by
  obtain ⟨i0, hi, hz0, hz1, hz2⟩ := ent_info
  obtain ⟨ad, cap, rfl, _⟩ := h.es.shape
  obtain ⟨ad', cap', rfl, _⟩ := h.ms.shape
  have hes := h.es
  rw [hl] at hes
  simp only [List.length_singleton] at hes
  obtain ⟨g, o, a, m, rfl, d0, d1, hg, hvs⟩ := hes.get (j := 0) (x := e0) rfl
  rw [hk] at d0
  have HVS := Lib.hid hvs
  have HK := Lib.hid hk
  rw [hl]
  simp only [List.length_singleton]
  clear h hes hvs hl hk
  unfold bagg
  go_enter Tryz.func87, Tryz.ntmps87
  have HB0 : Hid (Below w.heap.size w ((w.alloc (.cells #[.int .i64 s.seq, .slice (some ⟨g, o, none⟩) 1 cap, .slice ad' s.ms.length cap', .int .i64 s.l1, .int .i64 s.l2, .int .i64 s.l3, .int .i64 s.l4, .int .i64 s.l5] 78)).alloc (.cells #[] 58))) := Lib.hid (((Below.refl _ w).alloc (Nat.le_refl _) _).alloc (by simp) _)
  have HR0 := Lib.hid (row_start w 58 78 2 #[.int .i64 s.seq, .slice (some ⟨g, o, none⟩) 1 cap, .slice ad' s.ms.length cap', .int .i64 s.l1, .int .i64 s.l2, .int .i64 s.l3, .int .i64 s.l4, .int .i64 s.l5])
  have hs0 : ((w.alloc (.cells #[.int .i64 s.seq, .slice (some ⟨g, o, none⟩) 1 cap, .slice ad' s.ms.length cap', .int .i64 s.l1, .int .i64 s.l2, .int .i64 s.l3, .int .i64 s.l4, .int .i64 s.l5] 78)).alloc (.cells #[] 58)).heap.size = w.heap.size + 2 := by simp
  go_wp2_with fail
  generalize (w.alloc (.cells #[.int .i64 s.seq, .slice (some ⟨g, o, none⟩) 1 cap, .slice ad' s.ms.length cap', .int .i64 s.l1, .int .i64 s.l2, .int .i64 s.l3, .int .i64 s.l4, .int .i64 s.l5] 78)).alloc (.cells #[] 58) = W0 at *
  have c0 : W0.cell? ⟨g, o, none⟩ = some (.string ⟨#[107]⟩) := by have := cell_kept HB0.out (Nat.le_refl _) d0; simpa using this
  have c1 : W0.cell? ⟨g, o + 1, none⟩ = some (.slice a e0.vs.length m) := by have := cell_kept HB0.out (Nat.le_refl _) d1; simpa using this
  have hgW : g < W0.heap.size := by omega
  have hhp : Lib.hasPrefix (⟨#[107]⟩ : ByteArray).data.toList (⟨#[]⟩ : ByteArray).data.toList = true := rfl
  clear d0 d1
  go_loopw [7, 14] (fun vv iv wr => B1Own w W0 e0 vv iv wr) (fun _ iv _ => 1 - (intOf iv).toNat)
  case atStart => exact .inl ⟨rfl, rfl, rfl⟩
  case round =>
    unfold B1Own at hrel
    rcases hrel with ⟨rfl, rfl, rfl⟩ | ⟨rfl, a2, c2, rfl, HE, HBR⟩
    · go_wp2_with fail
      refine (Tryz.strings_HasPrefix _ _ _).mono ?_
      rintro _ _ ⟨rfl, rfl⟩
      simp only [hhp]
      have HAL : Hid (Below wr.heap.size wr ((wr.alloc (.cells #[.string ⟨#[107]⟩, .slice a e0.vs.length m] 58)).alloc (.cells #[.string ⟨#[107]⟩, .slice a e0.vs.length m] 58))) := Lib.hid (((Below.refl _ wr).alloc (Nat.le_refl _) _).alloc (by simp) _)
      have HOW : Hid (((wr.alloc (.cells #[.string ⟨#[107]⟩, .slice a e0.vs.length m] 58)).alloc (.cells #[.string ⟨#[107]⟩, .slice a e0.vs.length m] 58)).ownsRow (w.heap.size + 1) 58 2 (.slice (some ⟨w.heap.size + 1, 0, none⟩) 0 0) 0 []) := Lib.hid (owns_below HR0.out HAL.out)
      go_wp2_with (at_builtin; refine wpList_append_own_at _ rfl (.tmp 28) (.tmp 30) 74 rfl (w.heap.size + 1) 58 i0 _ 2 40 Tryz.underlying74 hi hz0 hz1 hz2 rfl (by decide) (.slice (some ⟨w.heap.size + 1, 0, none⟩) 0 0) 0 [] rfl HOW.out ⟨w.heap.size + 2 + 1, 0, none⟩ 1 1 [.string ⟨#[107]⟩, .slice a e0.vs.length m] rfl rfl ?c1 ?c2 (by unfold maxLen; omega) (by omega) (by simp; omega) ?_)
      case c1 =>
        have := World.news_of_block (cs := #[.string ⟨#[107]⟩, .slice a e0.vs.length m]) (heap_alloc_new (wr.alloc (.cells #[.string ⟨#[107]⟩, .slice a e0.vs.length m] 58)) (.cells #[.string ⟨#[107]⟩, .slice a e0.vs.length m] 58))
        simpa [hs0] using this
      case c2 =>
        intro u hu
        simp at hu
        rcases hu with rfl | rfl <;> rfl
      intro v' w3 hown3 hgrow3 _ _
      obtain ⟨la3, lc3, rfl⟩ := owns_shape4 hown3
      have hbl3 : Below w.heap.size w w3 := (HB0.out.trans (HAL.out.mono HB0.out.size)).grown hgrow3 (by simp; omega) (fun j hj => by have := owns_base HOW.out j hj; omega)
      have HE : Hid (OwnE w3 w.heap.size (.slice la3 1 lc3) e0) := Lib.hid ⟨.slice a e0.vs.length m, row_mono hown3 (Nat.le_succ _), HVS.out.below hbl3, HK.out⟩
      have HB3 := Lib.hid hbl3
      clear hown3 hgrow3 hbl3
      go_wp2_with fail
      go_roundw
      case rel => exact .inr ⟨rfl, la3, lc3, rfl, HE, HB3⟩
      case measure => simp [intOf]
    · clear c0 c1 hgW
      go_wp2_with fail
      refine (sort1 a2 c2 _).mono ?_
      rintro _ _ ⟨rfl, rfl⟩
      go_wp2_with fail
      refine (compact1 a2 c2 _).mono ?_
      rintro _ _ ⟨rfl, rfl⟩
      go_wp2_with fail
      go_ret
      exact ⟨a2, c2, rfl, HE.out, HBR.out⟩


set_option maxRecDepth 100000 in
set_option maxHeartbeats 4000000 in
/-- The one there is gone. -/
theorem eindex_gone1 (v : Value) (e0 : En) (w : World) (h : EsAt w v [e0]) (hv : e0.vs.length ≤ 1000000) (hg : (nowE e0.vs).2 = false) :
    Calls Tryz.prog 126 #[v, .func (.func 88) #[] #[]] w fun e w' => e = .returned (.int .i64 0) ∧ Below w.heap.size w w' := by
  have eg : ∀ args w, (callFunc 88 args).run Tryz.prog w = .ok (.enter 88 args) w := enters_of Tryz.func88 (by kernel_rfl) rfl
  have HP := Lib.hid (fun a c W (hW : VsAt W (.slice a e0.vs.length c) e0.vs) => gone_p e0.key (.slice a e0.vs.length c) e0.vs W hW hv)
  rw [hg] at HP
  obtain ⟨ad, cap, rfl, hcap⟩ := h.shape
  obtain ⟨g, o, a, m, rfl, c0, c1, _, hvs⟩ := h.get (j := 0) (x := e0) rfl
  have HC := Lib.hid (HP.out a m w hvs)
  simp only [List.length_singleton] at hcap ⊢
  rw [Nat.zero_mul, Nat.add_zero] at c0 c1
  clear h hg hv hvs HP
  go_enter Tryz.func126, Tryz.ntmps126
  go_wp2
  go_loopw [5, 8] (fun _ s8 wr => s8 = .int .i64 0 ∧ wr = w) (fun _ _ _ => 0)
  case atStart => exact ⟨rfl, rfl⟩
  case round =>
    obtain ⟨rfl, rfl⟩ := hrel
    go_wp2_with fail
    refine HC.out.mono ?_
    rintro _ w' ⟨rfl, hb'⟩
    have HB' := Lib.hid hb'
    clear hb'
    go_wp2_with fail
    go_ret
    exact ⟨rfl, HB'.out⟩

set_option maxRecDepth 100000 in
set_option maxHeartbeats 4000000 in
theorem edel_gone1 (v : Value) (e0 : En) (B : Nat) (w : World) (h : OwnE w B v e0) (hv : e0.vs.length ≤ 1000000) (hg : (nowE e0.vs).2 = false) :
    Calls Tryz.prog 86 #[v, .func (.func 88) #[] #[]] w fun e w' => ∃ ad cap, e = .returned (.slice ad 0 cap) ∧ Below B w w' := by
  have HI := Lib.hid (eindex_gone1 v e0 w h.at hv hg)
  have HO := Lib.hid h
  have hlt : B ≤ w.heap.size := by obtain ⟨g, cap, _, h1, h2, _⟩ := h.shape; omega
  obtain ⟨g0, cap0, hv0, _⟩ := h.shape
  subst hv0
  clear h hg hv
  go_enter Tryz.func86, Tryz.ntmps86
  go_wp2_with fail
  refine HI.out.mono ?_
  rintro _ w1 ⟨rfl, hb1⟩
  have HB1 := Lib.hid (hb1.mono hlt)
  obtain ⟨g, cap, hv1, hB, hgl, k1, k2⟩ := (HO.out.below hb1).shape
  simp only [Value.slice.injEq, Option.some.injEq, Addr.mk.injEq, and_true, true_and] at hv1
  obtain ⟨rfl, rfl⟩ := hv1
  have hcl : ∀ ty c, (Builtin.clear_ #[74] ty #[.slice (some ⟨g0, 0, none⟩) 1 c]).run Tryz.prog w1 = .ok (.tuple #[]) (w1.setCells g0 0 [.string ⟨#[]⟩, .slice none 0 0]) := fun ty c => ent_clear w1 g0 0 c ty k1 k2
  have HBC := Lib.hid (below_cells hB [.string ⟨#[]⟩, .slice none 0 0] 0 _ HB1.out)
  clear hb1 HI HO k1 k2 hB hlt hgl
  go_wp2_with fail
  go_loopw [5, 6] (fun a b wr => a = .int .i64 0 ∧ b = .int .i64 1 ∧ wr = w1) (fun _ _ _ => 0)
  case atStart => exact ⟨rfl, rfl, rfl⟩
  case round =>
    obtain ⟨rfl, rfl, rfl⟩ := hrel
    go_wp2_with fail
    go_ret
    exact ⟨_, _, rfl, HBC.out⟩

set_option maxRecDepth 100000 in
theorem page0 (ad : Option Addr) (cap : Nat) (w : World) :
    Calls Tryz.prog 89 #[.slice ad 0 cap, .int .i64 20] w fun e w' => e = .returned (.tuple #[.slice ad 0 cap, .bool false]) ∧ w' = w := by
  go_enter Tryz.func89, Tryz.ntmps89
  go_wp2_with fail
  go_ret2
  exact ⟨rfl, rfl⟩

set_option maxRecDepth 100000 in
theorem page1b (ad : Option Addr) (cap : Nat) (w : World) :
    Calls Tryz.prog 89 #[.slice ad 1 cap, .int .i64 20] w fun e w' => e = .returned (.tuple #[.slice ad 1 cap, .bool false]) ∧ w' = w := by
  go_enter Tryz.func89, Tryz.ntmps89
  go_wp2_with fail
  go_ret2
  exact ⟨rfl, rfl⟩

set_option maxRecDepth 100000 in
set_option maxHeartbeats 4000000 in
/-- No key has anything now. -/
theorem names0 (s : Bk) (e0 : En) (u v : Value) (w : World) (h : BAt w s u v) (hl : s.l = [e0]) (hk : e0.key = ⟨#[107]⟩) (hv : e0.vs.length ≤ 1000000) (hg : (nowE e0.vs).2 = false) :
    Calls Tryz.prog 50 #[bagg s u v, .string ⟨#[]⟩, .string ⟨#[]⟩, .int .i64 20] w fun e w' => ∃ a c, e = .returned (.tuple #[.slice a 0 c, .bool false]) ∧ Below w.heap.size w w' := by
  obtain ⟨ad, cap, rfl, _⟩ := h.es.shape
  obtain ⟨ad', cap', rfl, _⟩ := h.ms.shape
  have HB := Lib.hid (fun W (hW : Below w.heap.size w W) => behind1o s e0 _ _ W (h.below hW) hl hk)
  have HD := Lib.hid (fun (a : Option Addr) c B W (hW : OwnE W B (.slice a 1 c) e0) => edel_gone1 (.slice a 1 c) e0 B W hW hv hg)
  have hb0 : Below w.heap.size w (w.alloc (.cells #[.int .i64 s.seq, .slice ad s.l.length cap, .slice ad' s.ms.length cap', .int .i64 s.l1, .int .i64 s.l2, .int .i64 s.l3, .int .i64 s.l4, .int .i64 s.l5] 78)) := (Below.refl _ w).alloc (Nat.le_refl _) _
  have HB0 := Lib.hid hb0
  clear h hl hk hv hg hb0
  unfold bagg at *
  go_enter Tryz.func50, Tryz.ntmps50
  go_wp2_with fail
  refine (HB.out _ HB0.out).mono ?_
  rintro _ w1 ⟨a1, c1, rfl, hes, hb1⟩
  have HES := Lib.hid hes
  have HB1 := Lib.hid (HB0.out.trans (hb1.mono HB0.out.size))
  have HS0 := Lib.hid HB0.out.size
  clear hes hb1 HB
  go_wp2_with fail
  refine (HD.out a1 c1 _ _ HES.out).mono ?_
  rintro _ w2 ⟨a2, c2, rfl, hb2⟩
  have HB2 := Lib.hid (HB1.out.trans (hb2.mono HS0.out))
  clear hb2 HD HES
  go_wp2_with fail
  refine (page0 a2 c2 _).mono ?_
  rintro _ w2 ⟨rfl, rfl⟩
  go_wp2_with fail
  have hb3 : Below w2.heap.size w2 (w2.alloc (.cells #[] 9)) := (Below.refl _ _).alloc (Nat.le_refl _) _
  have HB3 := Lib.hid (HB2.out.trans (hb3.mono HB2.out.size))
  clear hb3
  generalize w2.alloc (.cells #[] 9) = W3 at *
  generalize w2.heap.size = X at *
  go_loopw [12, 29] (fun vv iv wr => wr = W3 ∧ iv = .int .i64 0 ∧ vv = .slice (some ⟨X, 0, none⟩) 0 0) (fun _ iv _ => 0)
  case atStart => exact ⟨rfl, rfl, rfl⟩
  case round =>
    obtain ⟨rfl, rfl, rfl⟩ := hrel
    go_wp2_with fail
    go_ret2
    exact ⟨_, _, rfl, HB3.out⟩

set_option maxRecDepth 100000 in
set_option maxHeartbeats 4000000 in
theorem vers1 (s : Bk) (e0 : En) (u v : Value) (w : World) (h : BAt w s u v) (hl : s.l = [e0]) (hk : e0.key = ⟨#[107]⟩) (hv : e0.vs.length ≤ 1000000) :
    Calls Tryz.prog 51 #[bagg s u v, .string ⟨#[]⟩, .string ⟨#[]⟩, .int .i64 20] w fun e w' => ∃ a c, e = .returned (.tuple #[.slice a 1 c, .bool false]) ∧ EOwn w' w.heap.size (.slice a 1 c) [e0] ∧ Below w.heap.size w w' := by
  obtain ⟨ad, cap, rfl, _⟩ := h.es.shape
  obtain ⟨ad', cap', rfl, _⟩ := h.ms.shape
  have HB := Lib.hid (fun W (hW : Below w.heap.size w W) => behind1 s e0 _ _ W (h.below hW) hl hk)
  have HD := Lib.hid (fun (a : Option Addr) c W (hW : EsAt W (.slice a 1 c) [e0]) => copiedEntries_p (.slice a 1 c) [e0] W hW (by simp) (fun x hx => by simp at hx; rw [hx]; exact hv))
  have hb0 : Below w.heap.size w (w.alloc (.cells #[.int .i64 s.seq, .slice ad s.l.length cap, .slice ad' s.ms.length cap', .int .i64 s.l1, .int .i64 s.l2, .int .i64 s.l3, .int .i64 s.l4, .int .i64 s.l5] 78)) := (Below.refl _ w).alloc (Nat.le_refl _) _
  have HB0 := Lib.hid hb0
  simp only [List.length_singleton] at HD
  clear h hl hk hv hb0
  unfold bagg at *
  go_enter Tryz.func51, Tryz.ntmps51
  go_wp2_with fail
  refine (HB.out _ HB0.out).mono ?_
  rintro _ w1 ⟨a1, c1, rfl, hes, hb1⟩
  have HES := Lib.hid hes
  have HB1 := Lib.hid (HB0.out.trans (hb1.mono HB0.out.size))
  clear hes hb1 HB
  go_wp2_with fail
  refine (page1b a1 c1 _).mono ?_
  rintro _ _ ⟨rfl, rfl⟩
  go_wp2_with fail
  refine (HD.out a1 c1 _ HES.out).mono ?_
  rintro _ w2 ⟨a2, c2, rfl, ho, hb2⟩
  have HE2 := Lib.hid (EOwn.mono ho HB1.out.size)
  have HB2 := Lib.hid (HB1.out.trans (hb2.mono HB1.out.size))
  clear hb2 HD HES ho
  go_wp2_with fail
  go_ret2
  exact ⟨a2, c2, rfl, HE2.out, HB2.out⟩

end Go.Proofs.YtoealjcjpjapkaaGreatDoor
