/-
  PouchMany answers true.
-/
import Derived.Test.YtgjnllkbfjeihaaDoorBack
import Derived.Test.YtgjnllkbfjeihaaDoorEqr
import Derived.Test.YtgjnllkbfjeihaaDoorPouch6
import Derived.Test.YtgjnllkbfjeihaaDoorTrip
import Derived.Lib.SmallJoins
namespace Go.Proofs.YtgjnllkbfjeihaaDoor
open Go.RowKit

/-- The texts of values, one behind the other. -/
def F.cat : F → ByteArray
  | .nil => ⟨#[]⟩
  | .cons k n s l r => putV k n s l ++ r.cat

/-- Each may be, and has a text. -/
def F.good : F → Prop
  | .nil => True
  | .cons k n s l r => (vmay k n s l = true ∧ (-9223372036854775808 ≤ n ∧ n ≤ 9223372036854775807) ∧ l.wf ∧ ¬ (putV k n s l).size = 0 ∧ l.len * 56 ≤ 140737488355328 ∧ l.fit) ∧ r.good

theorem ba_nil_append (t : ByteArray) : (⟨#[]⟩ : ByteArray) ++ t = t := by
  apply ByteArray.ext
  simp

theorem F.cat_app : ∀ f g : F, (f.app g).cat = f.cat ++ g.cat
  | .nil, g => by simp only [F.app, F.cat, ba_nil_append]
  | .cons k n s l r, g => by simp only [F.app, F.cat, F.cat_app r g, ByteArray.append_assoc]

theorem F.good_app : ∀ f g : F, f.good → g.good → (f.app g).good
  | .nil, _, _, h => h
  | .cons _ _ _ _ r, g, h1, h2 => ⟨h1.1, F.good_app r g h1.2 h2⟩

theorem F.cat_size : ∀ f : F, f.cat.size ≤ f.len * 10000022
  | .nil => Nat.le_refl _
  | .cons k n s l r => by
    have h1 := F.cat_size r
    have h2 := putV_size k n s l
    simp only [F.cat, F.len, ByteArray.size_append]
    omega

/-- Cells that hold a list of values, whose lists lie in w. -/
def RepY (w : World) : List Value → F → Prop
  | xs, .nil => xs = []
  | xs, .cons k n s l r => ∃ ad cap ys, xs = .int .i64 k :: .int .i64 n :: .string s :: .slice ad l.len cap :: ys ∧ RepS w ad l ∧ RepY w ys r

theorem RepY.snoc {w : World} {k n : Int} {s : ByteArray} {l : F} {ad : Option Addr} {cap : Nat} (hg : RepS w ad l) : ∀ (f : F) (xs : List Value), RepY w xs f →
    RepY w (xs ++ [.int .i64 k, .int .i64 n, .string s, .slice ad l.len cap]) (f.app (.cons k n s l .nil))
  | .nil, _, h => by
    obtain rfl : _ = [] := h
    exact ⟨ad, cap, [], rfl, hg, rfl⟩
  | .cons _ _ _ _ r, _, h => by
    obtain ⟨ad', cap', ys, rfl, h2, h3⟩ := h
    exact ⟨ad', cap', _, rfl, h2, RepY.snoc hg r ys h3⟩

theorem RepY.at {w : World} {k n : Int} {s : ByteArray} {l r : F} : ∀ (f : F) (xs : List Value), RepY w xs (f.app (.cons k n s l r)) →
    ∃ ad cap, xs[f.len * 4]? = some (.int .i64 k) ∧ xs[f.len * 4 + 1]? = some (.int .i64 n) ∧ xs[f.len * 4 + 2]? = some (.string s) ∧ xs[f.len * 4 + 3]? = some (.slice ad l.len cap) ∧ RepS w ad l
  | .nil, xs, h => by
    obtain ⟨ad, cap, ys, rfl, h2, _⟩ := h
    exact ⟨ad, cap, rfl, rfl, rfl, rfl, h2⟩
  | .cons _ _ _ _ f, xs, h => by
    obtain ⟨ad', cap', ys, rfl, _, h3⟩ := h
    obtain ⟨ad, cap, e0, e1, e2, e3, e4⟩ := RepY.at f ys h3
    refine ⟨ad, cap, ?_, ?_, ?_, ?_, e4⟩
    all_goals simp only [F.len, show ∀ q : Nat, (q + 1) * 4 = q * 4 + 4 from fun q => by omega]
    · exact e0
    · rw [show f.len * 4 + 4 + 1 = f.len * 4 + 1 + 4 by omega]; exact e1
    · rw [show f.len * 4 + 4 + 2 = f.len * 4 + 2 + 4 by omega]; exact e2
    · rw [show f.len * 4 + 4 + 3 = f.len * 4 + 3 + 4 by omega]; exact e3

/-- What the first loop keeps. -/
def ManyA (w : World) (l : F) (ad : Option Addr) (tv lv iv : Value) (wr : World) : Prop :=
  ∃ (i : Nat) (g I : F) (T : ByteArray) (la : Option Addr) (lc : Nat) (xs : List Value), iv = .int .i64 i ∧ tv = .string T ∧ lv = .slice la I.len lc ∧ i ≤ 8 ∧ I.len ≤ i ∧ i + g.len = l.len ∧ T.size ≤ 80000176 ∧
    Hid ((g = .nil ∨ ∃ b o, ad = some ⟨b, o, none⟩ ∧ RepF w b (o + i * 4) g) ∧ g.fit ∧ g.wf) ∧ Hid (T = I.cat ∧ I.good) ∧ Hid (wr.ownsRow w.heap.size 24 4 (.slice la I.len lc) I.len xs ∧ RepY w xs I) ∧ Hid (Below w.heap.size w wr)

/-- What the second loop keeps. -/
def ManyB (w : World) (I : F) (la : Option Addr) (lc : Nat) (xs : List Value) (tv iv : Value) (wr : World) : Prop :=
  ∃ (dn g : F) (T : ByteArray), iv = .int .i64 dn.len ∧ tv = .string T ∧ dn.len + g.len = I.len ∧ T.size ≤ 80000176 ∧ Hid (dn.app g = I) ∧ Hid (T = g.cat ∧ g.good) ∧ Hid (wr.ownsRow w.heap.size 24 4 (.slice la I.len lc) I.len xs) ∧ Hid (Below w.heap.size w wr)

theorem infoRefVal : (Tryd.prog.info? 24).map (fun i => (i.zero, i.size, i.bytes)) = some (some (.agg #[.int .i64 0, .int .i64 0, .string ⟨#[]⟩, .slice none 0 0]), 4, 56) := by kernel_rfl

set_option maxRecDepth 100000 in
set_option maxHeartbeats 4000000 in
theorem pouchMany_walk (l : F) (ad : Option Addr) (cap : Nat) (w : World) (hbg : BegunTrue) (h : LibAt w) (hr : RepS w ad l) (hby : l.len * 56 ≤ 140737488355328) (hfit : l.fit) (hwf : l.wf) :
    Calls Tryd.prog 4 #[.slice ad l.len cap] w fun e w' => e = .returned (.bool true) ∧ Below w.heap.size w w' := by
  have HB := Lib.hid (hbg w h)
  have HLIB := Lib.hid h
  have HR := Lib.hid (And.intro hr (And.intro hfit hwf))
  have hmax : (l.len : Int) ≤ 2513169434916 := by omega
  obtain ⟨i0, hi, hz0, hz1, hz2⟩ := info_parts infoRefVal
  clear hbg h hr hfit hwf hby
  go_enter Tryd.func4, Tryd.ntmps4
  go_wp2_with fail
  refine HB.out.mono ?_
  rintro _ w0 ⟨rfl, hb0⟩
  have HB0 := Lib.hid hb0
  clear hb0
  go_wp2_with fail
  go_loopw [4, 5, 6] (fun tv lv iv wr => ManyA w l ad tv lv iv wr) (fun _ _ iv _ => l.len - (intOf iv).toNat)
  case atStart =>
    refine ⟨0, l, .nil, ⟨#[]⟩, none, 0, [], rfl, rfl, rfl, by omega, by simp [F.len], by omega, by decide, Lib.hid ⟨?_, HR.out.2⟩, Lib.hid ⟨rfl, trivial⟩, Lib.hid ⟨⟨rfl, .inl ⟨rfl, rfl⟩⟩, rfl⟩, HB0⟩
    rcases HR.out.1 with h | ⟨b, o, e, h⟩
    · exact .inl h
    · exact .inr ⟨b, o, e, by simpa using h⟩
  case round =>
    obtain ⟨i, g, I, T, la, lc, xs, rfl, rfl, rfl, hi8, hIi, hil, hTs, HG, HI, HO, HBR⟩ := hrel
    by_cases hstop : i < l.len ∧ i < 8
    · obtain ⟨h1, h2⟩ := hstop
      have hlt : (i : Int) < (l.len : Int) := by omega
      have hlt8 : (i : Int) < 8 := by omega
      cases g with
      | nil => exfalso; simp only [F.len] at hil; omega
      | cons k' n' s' l' r' =>
        obtain ⟨hg1, ⟨⟨hf1, hf2⟩, hf3⟩, hw1, hw2, hw3⟩ := HG.out
        obtain ⟨b, o, rfl, hGw⟩ := hg1.resolve_left (by simp)
        obtain ⟨g0, g1, g2, ⟨ad', cap', g3, g4⟩, _⟩ := RepF.kept HBR.out (Nat.le_refl _) _ _ _ hGw
        have q0 : wr.cell? ⟨b, o + i * 4 + 0, none⟩ = some (.int .i64 k') := g0
        have HS : Hid (∃ ad1 cap1, w.cell? ⟨b, o + i * 4 + 3, none⟩ = some (.slice ad1 l'.len cap1) ∧ RepS w ad1 l') := Lib.hid hGw.2.2.2.1
        have HADW : Hid (RepS w ad' l') := Lib.hid (by
          obtain ⟨ad1, cap1, e1, e2⟩ := HS.out
          have := cell_kept HBR.out (Nat.le_refl _) e1
          rw [g3] at this
          cases this
          exact e2)
        clear HS
        have HG4 := Lib.hid (show RepS wr ad' l' from g4)
        have HNX := Lib.hid (And.intro hGw.2.2.2.2 (And.intro hf3 hw3))
        have HFW := Lib.hid (And.intro hf1 (And.intro hf2 (And.intro hw1 hw2)))
        have HLEN := Lib.hid (show i + 1 + r'.len = l.len by simp only [F.len] at hil; omega)
        have h1' : i < l.len := h1
        clear hGw hf1 hf2 hf3 hw1 hw2 hw3 hg1 g4 HG hil
        go_wp2_with fail
        refine (back_c k' n' s' l' ad' cap' wr HFW.out.1 HFW.out.2.1 HG4.out).mono ?_
        rintro _ w2 ⟨hb2, ad2, cap2, rfl, hg2⟩
        have HB2 := Lib.hid (HBR.out.trans (hb2.mono HBR.out.size))
        have HW2 := Lib.hid (And.intro hb2 hg2.repS)
        clear hb2 hg2
        go_wp2_with fail
        refine (Put_p k' n' s' l' ad2 cap2 w2 (HLIB.out.below HB2.out).2.2.2 HFW.out.2.2.1 HFW.out.2.2.2 HW2.out.2).mono ?_
        rintro _ w3 ⟨rfl, hb3⟩
        have HB3 := Lib.hid (HB2.out.trans (hb3.mono HB2.out.size))
        have HW3 := Lib.hid (HW2.out.1.trans (hb3.mono HW2.out.1.size))
        clear hb3
        by_cases hs0 : (putS k' n' s' l').size = 0
        · rw [empty_of_size hs0]
          clear hs0
          have HEND : Hid (ManyA w l (some ⟨b, o, none⟩) (.string T) (.slice la I.len lc) (.int .i64 ((i + 1 : Nat) : Int)) w3) := Lib.hid ⟨i + 1, r', I, T, la, lc, xs, rfl, rfl, rfl, by omega, by omega, HLEN.out, hTs, Lib.hid ⟨.inr ⟨b, o, rfl, by rw [show o + (i + 1) * 4 = o + i * 4 + 4 by omega]; exact HNX.out.1⟩, HNX.out.2⟩, HI, Lib.hid ⟨owns_below HO.out.1 HW3.out, HO.out.2⟩, HB3⟩
          go_wp2_with fail
          go_roundw
          case rel => exact HEND.out
          case measure => simp [intOf]; omega
        · have hmay : vmay k' n' s' l' = true := by
            by_cases hm : vmay k' n' s' l' = true
            · exact hm
            · exfalso; apply hs0; unfold putS; rw [if_neg hm]; rfl
          have hps : putS k' n' s' l' = putV k' n' s' l' := by unfold putS; rw [if_pos hmay]
          rw [hps] at hs0 ⊢
          have hV1 : (putV k' n' s' l').toList.isEmpty = false := isEmpty_ne hs0
          have hVs := putV_size k' n' s' l'
          have HV : Hid ((I.app (.cons k' n' s' l' .nil)).cat = T ++ putV k' n' s' l' ∧ (I.app (.cons k' n' s' l' .nil)).good) := Lib.hid (by
            refine ⟨?_, F.good_app I _ HI.out.2 ⟨⟨hmay, HFW.out.2.2.1, HFW.out.2.2.2, hs0, HFW.out.1, HFW.out.2.1⟩, trivial⟩⟩
            rw [F.cat_app, HI.out.1]
            simp only [F.cat]
            rw [append_none])
          clear hs0 hps hmay
          generalize putV k' n' s' l' = V at *
          have hTV : T.size + V.size ≤ 80000176 := by
            have h1 := F.cat_size (I.app (.cons k' n' s' l' .nil))
            rw [HV.out.1, F.app_len, ByteArray.size_append] at h1
            simp only [F.len] at h1
            omega
          have hTV2 : T.size + V.size ≤ 9223372036854775807 := by omega
          have c0 : w3.cell? ⟨b, o + i * 4, none⟩ = some (.int .i64 k') := cell_kept HW3.out (Nat.le_refl _) g0
          have c00 : w3.cell? ⟨b, o + i * 4 + 0, none⟩ = some (.int .i64 k') := c0
          have c1 := cell_kept HW3.out (Nat.le_refl _) g1
          have c2 := cell_kept HW3.out (Nat.le_refl _) g2
          have c3 := cell_kept HW3.out (Nat.le_refl _) g3
          have HOW := Lib.hid (owns_below HO.out.1 HW3.out)
          have hIl : (I.len + 1) * 56 ≤ 140737488355328 := by omega
          have hIm : I.len + 1 ≤ maxLen := by unfold maxLen; omega
          have HX := Lib.hid (And.intro hIl hIm)
          clear hIl hIm
          clear g0 g1 g2 g3 q0
          go_wp2_with (at_builtin; refine wpList_append_own_at _ rfl (.tmp 36) (.tmp 41) 22 rfl w.heap.size 24 i0 _ 4 56 Tryd.underlying22 hi hz0 hz1 hz2 rfl (by decide) (.slice la I.len lc) I.len xs rfl (HOW.out.alloc _) ⟨w3.heap.size, 0, none⟩ 1 1 [.int .i64 k', .int .i64 n', .string s', .slice ad' l'.len cap'] rfl rfl ?c1 ?c2 HX.out.2 HX.out.1 ?c5 ?_)
          case c1 => exact World.news_of_block (cs := #[.int .i64 k', .int .i64 n', .string s', .slice ad' l'.len cap']) (heap_alloc_new w3 _)
          case c2 =>
            intro u hu
            simp at hu
            rcases hu with rfl | rfl | rfl | rfl <;> rfl
          case c5 => have := HB3.out.size; simp; omega
          intro v' w4 hown4 hgrow4 _ hloc4
          obtain ⟨va, vc, rfl⟩ := owns_shape4 hown4
          have HB4 := Lib.hid (HB3.out.alloc HB3.out.size (.cells #[.int .i64 k', .int .i64 n', .string s', .slice ad' l'.len cap'] 24))
          have e1 : (I.app (.cons k' n' s' l' .nil)).len = I.len + 1 := by rw [F.app_len]; rfl
          have e2 : (T ++ V).size = T.size + V.size := ByteArray.size_append
          have HEND : Hid (ManyA w l (some ⟨b, o, none⟩) (.string (T ++ V)) (.slice va (I.len + 1) vc) (.int .i64 ((i + 1 : Nat) : Int)) w4) := Lib.hid ⟨i + 1, r', I.app (.cons k' n' s' l' .nil), T ++ V, va, vc, xs ++ [.int .i64 k', .int .i64 n', .string s', .slice ad' l'.len cap'], rfl, rfl, by rw [e1], by omega, by omega, HLEN.out, by omega, Lib.hid ⟨.inr ⟨b, o, rfl, by rw [show o + (i + 1) * 4 = o + i * 4 + 4 by omega]; exact HNX.out.1⟩, HNX.out.2⟩, Lib.hid ⟨HV.out.1.symm, HV.out.2⟩, Lib.hid ⟨by rw [e1]; exact hown4, RepY.snoc HADW.out I xs HO.out.2⟩, Lib.hid (HB4.out.grown hgrow4 (Nat.le_trans HB3.out.size (by simp)) (owns_base HO.out.1))⟩
          clear hown4 hgrow4 hloc4 c0 c00 c1 c2 c3 e1 e2
          go_wp2_with fail
          go_roundw
          case rel => exact HEND.out
          case measure => simp [intOf]; omega
    · have hcase : (¬ (i : Int) < (l.len : Int)) ∨ ((i : Int) < (l.len : Int) ∧ ¬ (i : Int) < 8) := by omega
      clear HG hstop
      have HOI := HI
      clear HI
      rcases hcase with hn | ⟨hlt, hn⟩
      all_goals
        go_wp2_with fail
        go_loopw [4, 8] (fun tv iv wr => ManyB w I la lc xs tv iv wr) (fun _ iv _ => I.len - (intOf iv).toNat)
        case atStart => exact ⟨.nil, I, T, rfl, rfl, by simp [F.len], hTs, Lib.hid rfl, HOI, Lib.hid HO.out.1, HBR⟩
        case round =>
          clear hn
          obtain ⟨dn, g, T, rfl, rfl, hil2, hTz, HAP, HI, HOW, HBR⟩ := hrel
          cases g with
          | nil =>
            have hlt : ¬ (dn.len : Int) < (I.len : Int) := by simp only [F.len] at hil2; omega
            obtain rfl : T = ⟨#[]⟩ := HI.out.1
            go_wp2_with fail
            go_ret
            exact ⟨rfl, HBR.out⟩
          | cons k n s l2 r =>
            have hlt : (dn.len : Int) < (I.len : Int) := by simp only [F.len] at hil2; omega
            have hlt' : dn.len < I.len := by simp only [F.len] at hil2; omega
            obtain ⟨hT, ⟨hm, hnr, hw, hne, hf1, hf2⟩, hgood⟩ := HI.out
            simp only [F.cat] at hT
            have TR := trip_p k n s l2 hm hnr hw hne r.cat
            rw [← hT] at TR
            have GP := Lib.hid (Get_p T wr (by omega) (HLIB.out.below HBR.out))
            rw [TR] at GP
            unfold GetV at GP
            have HF := Lib.hid (And.intro hf1 hf2)
            have HNX := Lib.hid (And.intro hgood (show I.len = dn.len + 1 + r.len by simp only [F.len] at hil2; omega))
            obtain ⟨V, hV⟩ : ∃ V, putV k n s l2 = V := ⟨_, rfl⟩
            rw [hV] at hT hne GP
            have hTV : T.size = V.size + r.cat.size := by rw [hT, ByteArray.size_append]
            have hVT : V.size ≤ T.size := by omega
            have HEX : Hid (T.extract V.size T.size = r.cat) := Lib.hid (by
              rw [hT]
              exact extract_app V r.cat)
            have HTV := Lib.hid (And.intro hTV hne)
            clear TR hm hnr hw hne hf1 hf2 hgood HI hV hT hTV hil2
            go_wp2_with fail
            refine GP.out.mono ?_
            rintro _ w2 ⟨hb2, ad2, cap2, rfl, hg2⟩
            have hown2 := owns_below HOW.out hb2
            obtain ⟨gb, cp, hsl⟩ := Joins.ownsRow_form HOW.out (by omega)
            simp only [Value.slice.injEq] at hsl
            obtain ⟨rfl, _, rfl⟩ := hsl
            have hY := HO.out.2
            rw [← HAP.out] at hY
            obtain ⟨ad3, cap3, x0, x1, x2, x3, x4⟩ := RepY.at dn xs hY
            have hcl := hown2.cells (g := gb) rfl
            have ff (j : Nat) : (⟨gb, 0, none⟩ : Addr).add j = ⟨gb, j, none⟩ := by unfold Addr.add; split <;> simp_all
            have d0 := hcl _ _ x0
            have d1 := hcl _ _ x1
            have d2 := hcl _ _ x2
            have d3 := hcl _ _ x3
            simp only [ff] at d0 d1 d2 d3
            have hv4 : ∀ ty, CelV (w2.alloc (.cells #[.int .i64 k, .int .i64 n, .string s, .slice ad2 l2.len cap2] ty)) w2.heap.size k n s ad2 l2.len cap2 := by
              intro ty
              refine ⟨?_, ?_, ?_, ?_⟩ <;> go_simp
            obtain ⟨W, hW⟩ : ∃ W, w2.alloc (.cells #[.int .i64 k, .int .i64 n, .string s, .slice ad2 l2.len cap2] 30) = W := ⟨_, rfl⟩
            have hwW : Below w2.heap.size w2 W := by rw [← hW]; exact (Below.refl _ _).alloc (Nat.le_refl _) _
            have hsW : w2.heap.size < W.heap.size := by rw [← hW]; simp
            have hvv : CelV W w2.heap.size k n s ad2 l2.len cap2 := by rw [← hW]; exact hv4 _
            obtain ⟨v0, v1, v2, v3⟩ := hvv
            have e0 := cell_kept hwW (Nat.le_refl _) d0
            have e1 := cell_kept hwW (Nat.le_refl _) d1
            have e2 := cell_kept hwW (Nat.le_refl _) d2
            have e3 := cell_kept hwW (Nat.le_refl _) d3
            have HSS : Hid (∀ W', Below W.heap.size W W' → W'.cell? ⟨w2.heap.size, 0, none⟩ = some (.int .i64 k) ∧ W'.cell? ⟨w2.heap.size, 1, none⟩ = some (.int .i64 n) ∧ W'.cell? ⟨w2.heap.size, 2, none⟩ = some (.string s) ∧ W'.cell? ⟨w2.heap.size, 3, none⟩ = some (.slice ad2 l2.len cap2) ∧
                W'.cell? ⟨gb, dn.len * 4, none⟩ = some (.int .i64 k) ∧ W'.cell? ⟨gb, dn.len * 4 + 1, none⟩ = some (.int .i64 n) ∧ W'.cell? ⟨gb, dn.len * 4 + 2, none⟩ = some (.string s) ∧ W'.cell? ⟨gb, dn.len * 4 + 3, none⟩ = some (.slice ad3 l2.len cap3)) := Lib.hid (fun W' h => ⟨cell_kept h (Nat.le_refl _) v0, cell_kept h (Nat.le_refl _) v1, cell_kept h (Nat.le_refl _) v2, cell_kept h (Nat.le_refl _) v3, cell_kept h (Nat.le_refl _) e0, cell_kept h (Nat.le_refl _) e1, cell_kept h (Nat.le_refl _) e2, cell_kept h (Nat.le_refl _) e3⟩)
            have HBW := Lib.hid ((HBR.out.trans (hb2.mono HBR.out.size)).trans (hwW.mono (Nat.le_trans HBR.out.size hb2.size)))
            have HGW := Lib.hid (And.intro ((RepG.repS hg2).below hwW) (x4.below HBW.out))
            have HOWW := Lib.hid (owns_below hown2 hwW)
            clear hown2 hY x0 x1 x2 x3 x4 hcl d0 d1 d2 d3 v0 v1 v2 v3 e0 e1 e2 e3 hg2 hb2 ff hsW hv4
            go_wp2_with fail
            try rw [hW]
            clear hW
            have hS0 := HSS.out _ (Below.refl W.heap.size W).drew
            refine wp_region_held (S := fun W' => W'.cell? ⟨w2.heap.size, 0, none⟩ = some (.int .i64 k) ∧ W'.cell? ⟨w2.heap.size, 1, none⟩ = some (.int .i64 n) ∧ W'.cell? ⟨w2.heap.size, 2, none⟩ = some (.string s) ∧ W'.cell? ⟨w2.heap.size, 3, none⟩ = some (.slice ad2 l2.len cap2) ∧
                W'.cell? ⟨gb, dn.len * 4, none⟩ = some (.int .i64 k) ∧ W'.cell? ⟨gb, dn.len * 4 + 1, none⟩ = some (.int .i64 n) ∧ W'.cell? ⟨gb, dn.len * 4 + 2, none⟩ = some (.string s) ∧ W'.cell? ⟨gb, dn.len * 4 + 3, none⟩ = some (.slice ad3 l2.len cap3)) (by kernel_rfl) ?_
            refine wpAnyH_take (i := 0) (v := Value.int .i64 0) rfl (by kernel_rfl) (by kernel_rfl) (by kernel_rfl) (fun _ _ _ h => h) (Or.inl ⟨by kernel_rfl, ?_⟩) hS0 ?_
            · intro w' ⟨s0, s1, s2, s3, s4, s5, s6, s7⟩; go_simp
            refine wpAnyH_take (i := 1) (v := Value.bool false) rfl (by kernel_rfl) (by kernel_rfl) (by kernel_rfl) (fun _ _ _ h => h) (Or.inl ⟨by kernel_rfl, ?_⟩) hS0 ?_
            · intro w' ⟨s0, s1, s2, s3, s4, s5, s6, s7⟩; go_simp
            refine wpAnyH_take (i := 2) (v := Value.bool false) rfl (by kernel_rfl) (by kernel_rfl) (by kernel_rfl) (fun _ _ _ h => h) (Or.inl ⟨by kernel_rfl, ?_⟩) hS0 ?_
            · intro w' ⟨s0, s1, s2, s3, s4, s5, s6, s7⟩; go_simp
            refine wpAnyH_take (i := 3) (v := Value.agg #[.int .i64 k, .int .i64 n, .string s, .slice ad2 l2.len cap2]) rfl (by kernel_rfl) (by kernel_rfl) (by kernel_rfl) (fun _ _ _ h => h) (Or.inl ⟨by kernel_rfl, ?_⟩) hS0 ?_
            · intro w' ⟨s0, s1, s2, s3, s4, s5, s6, s7⟩; go_simp
            refine wpAnyH_take (i := 5) (v := Value.slice (some ⟨gb, 0, none⟩) I.len lc) rfl (by kernel_rfl) (by kernel_rfl) (by kernel_rfl) (fun _ _ _ h => h) (Or.inl ⟨by kernel_rfl, ?_⟩) hS0 ?_
            · intro w' ⟨s0, s1, s2, s3, s4, s5, s6, s7⟩; go_simp
            refine wpAnyH_take (i := 6) (v := Value.int .i64 (dn.len : Nat)) rfl (by kernel_rfl) (by kernel_rfl) (by kernel_rfl) (fun _ _ _ h => h) (Or.inl ⟨by kernel_rfl, ?_⟩) hS0 ?_
            · intro w' ⟨s0, s1, s2, s3, s4, s5, s6, s7⟩; go_simp
            refine wpAnyH_take (i := 7) (v := Value.pointer (some ⟨gb, dn.len * 4, none⟩)) rfl (by kernel_rfl) (by kernel_rfl) (by kernel_rfl) (fun _ _ _ h => h) (Or.inl ⟨by kernel_rfl, ?_⟩) hS0 ?_
            · intro w' ⟨s0, s1, s2, s3, s4, s5, s6, s7⟩; go_simp
            refine wpAnyH_take (i := 8) (v := Value.agg #[.int .i64 k, .int .i64 n, .string s, .slice ad3 l2.len cap3]) rfl (by kernel_rfl) (by kernel_rfl) (by kernel_rfl) (fun _ _ _ h => h) (Or.inl ⟨by kernel_rfl, ?_⟩) hS0 ?_
            · intro w' ⟨s0, s1, s2, s3, s4, s5, s6, s7⟩; have s4' : w'.cell? ⟨gb, dn.len * 4 + 0, none⟩ = some (.int .i64 k) := s4; go_simp
            simp only [List.getElem_toArray, List.getElem_cons_succ, List.getElem_cons_zero, Act.put, List.setIfInBounds_toArray, List.set_cons_zero, List.set_cons_succ]
            refine wpAnyH_ready (rs := [4]) (by kernel_rfl) (by simp) ?_
            refine AllReadyH.cons rfl (fun K hK => ?_) AllReadyH.nil
            simp only [List.getElem_toArray, List.getElem_cons_succ, List.getElem_cons_zero]
            rw [if_pos (by kernel_rfl)]
            go_simp
            refine (of_c k n s l2 ad2 cap2 W.drew HF.out.1 HF.out.2 (HGW.out.1.below (Below.refl W.heap.size W).drew)).mono ?_
            rintro _ w3 ⟨hb3, ad4, cap4, rfl, hg4⟩
            have HB3 := Lib.hid ((Below.refl W.heap.size W).drew.trans hb3)
            have HG3 := Lib.hid (And.intro hg4.repS (HGW.out.2.below HB3.out))
            clear hb3 hg4
            refine hK.out _ _ (HSS.out _ HB3.out) (fun _ => ?_)
            clear hK hS0
            refine wpAnyH_ready (rs := [9]) (by kernel_rfl) (by simp) ?_
            refine AllReadyH.cons rfl (fun K hK => ?_) AllReadyH.nil
            simp only [List.getElem_toArray, List.getElem_cons_succ, List.getElem_cons_zero]
            rw [if_pos (by kernel_rfl)]
            go_simp
            refine (eqr_p k n s l2 ad4 ad3 cap4 cap3 w3 HF.out.1 HF.out.2 HG3.out.1 HG3.out.2).mono ?_
            rintro _ w4 ⟨rfl, hb4⟩
            have HB4 := Lib.hid (HB3.out.trans (hb4.mono HB3.out.size))
            clear hb4
            refine hK.out _ _ (HSS.out _ HB4.out) (fun hS4 => ?_)
            clear hK
            refine wpAnyH_take (i := 10) (v := Value.bool false) rfl (by kernel_rfl) (by kernel_rfl) (by kernel_rfl) (fun _ _ _ h => h) (Or.inl ⟨by kernel_rfl, ?_⟩) hS4 ?_
            · intro w' ⟨s0, s1, s2, s3, s4, s5, s6, s7⟩; go_simp
            refine wpAnyH_take (i := 11) (v := Value.bool false) rfl (by kernel_rfl) (by kernel_rfl) (by kernel_rfl) (fun _ _ _ h => h) (Or.inl ⟨by kernel_rfl, ?_⟩) hS4 ?_
            · intro w' ⟨s0, s1, s2, s3, s4, s5, s6, s7⟩; go_simp
            refine wpAnyH_done (by kernel_rfl) ?_ _
            have HEND : Hid (ManyB w I (some ⟨gb, 0, none⟩) lc xs (.string (T.extract V.size T.size)) (.int .i64 ((dn.len + 1 : Nat) : Int)) w4) := Lib.hid (by
              have e9 : (dn.app (.cons k n s l2 .nil)).len = dn.len + 1 := by rw [F.app_len]; rfl
              refine ⟨dn.app (.cons k n s l2 .nil), r, r.cat, by rw [e9], by rw [HEX.out], by rw [e9]; exact HNX.out.2.symm, by have := HTV.out.1; omega, Lib.hid (by rw [F.app_assoc]; exact HAP.out), Lib.hid ⟨rfl, HNX.out.1⟩, Lib.hid (owns_below HOWW.out HB4.out), Lib.hid (HBW.out.trans (HB4.out.mono HBW.out.size))⟩)
            clear hS4
            go_wp2_with fail
            go_roundw
            case rel => exact HEND.out
            case measure => simp [intOf]; omega

end Go.Proofs.YtgjnllkbfjeihaaDoor
