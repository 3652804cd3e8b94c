/-
 Contracts of the program, and what they rest on.
-/
import Derived.Test.YtlpgphiccjkenaaGreatDoorTk
import Derived.Test.YtlpgphiccjkenaaGreatDoorM22
import Derived.Test.YtlpgphiccjkenaaGreatDoorM11
import Derived.Test.YtlpgphiccjkenaaGreatDoorM13
import Derived.Test.YtlpgphiccjkenaaGreatDoorM10
import Derived.Test.YtlpgphiccjkenaaGreatDoorM12
import Derived.Test.YtlpgphiccjkenaaGreatDoorM09
import Derived.Test.YtlpgphiccjkenaaGreatDoorShelf
import Derived.Deep.LoopGhost
import Derived.Deep.AppendLies
set_option maxRecDepth 100000
set_option maxHeartbeats 16000000
namespace Go.Proofs.YtlpgphiccjkenaaGreatDoor
open Go.RowKit
theorem take_map {α β : Type} (l : List α) (f : α → β) (k : Nat) (x : α) (h : l[k]? = some x) : (l.take (k + 1)).map f = (l.take k).map f ++ [f x] := by
 rw [List.take_add_one, h, List.map_append]
 rfl
theorem row_start (w : World) (T T' : TypeId) (k : Nat) (cs : Array Value) : ((w.alloc (.cells cs T')).alloc (.cells #[] T)).ownsRow (w.heap.size + 1) T k (.slice (some ⟨w.heap.size + 1, 0, none⟩) 0 0) 0 [] := by
 refine ⟨by simp, .inr ⟨w.heap.size + 1, 0, #[], rfl, Nat.le_refl _, ?_, Nat.le_refl 0, by unfold maxLen; omega, by simp, by simp⟩⟩
 have h := heap_alloc_new (w.alloc (.cells cs T')) (.cells #[] T)
 simpa using h
theorem EOwn.push {w2 w3 : World} {B : Nat} {v v' z : Value} {l : List En} {e : En} {ps : List (ByteArray × Value)} (hrow : w2.ownsRow B 45 2 v l.length (ecells ps)) (hf : Fit (VOwn w2 B) l ps) (hz : VOwn w2 B z e.vs)
  (hown : w3.ownsRow B 45 2 v' (l.length + 1) (ecells ps ++ [.string e.key, z])) (hgrow : (w2.alloc (.cells #[.string e.key, z] 45)).grownBy w3 v.ownBlock) : EOwn w3 B v' (l ++ [e]) := by
 have hk : ∀ x m, VOwn w2 B x m → VOwn w3 B x m := fun x m hx => hx.kept (fun g hg => by
  have hlt := (hx.lt hg).2
  rw [hgrow.block g (by simp; omega) (fun e => rows_apart (T := 55) hx hrow (by decide) hg (by first | exact e | exact e.symm))]
  exact heap_alloc_old _ _ hlt)
 refine ⟨ps ++ [(e.key, z)], ?_, Fit.append (hf.map hk) ⟨rfl, hk _ _ hz, trivial⟩⟩
 rw [ecells_append, List.length_append]
 exact hown
structure AllVOwn (w : World) (L : List V4) (k : Nat) (la : Option Addr) (lc : Nat) (wr : World) : Prop where
 own : VOwn wr (w.heap.size + 1) (.slice la k lc) ((L.take k).map verOf4)
 bl : Below w.heap.size w wr
 ge : w.heap.size + 1 ≤ wr.heap.size
theorem vall_p (k n : Int) (s : ByteArray) (l : F) (ad : Option Addr) (cap : Nat) (w : World) (h : RepG w (fun _ => True) ad l) (hl : l.len ≤ 1000000)
  (hf : ∀ (x : V4) a c W, x ∈ F.list l → RepG W (fun _ => True) a x.l → Calls Tryz.prog 144 #[.agg #[.int .i64 x.k, .int .i64 x.n, .string x.s, .slice a x.l.len c]] W (fun e w' => e = .returned (veagg (verOf4 x)) ∧ Below W.heap.size W w')) :
  Calls Tryz.prog 143 #[.agg #[.int .i64 k, .int .i64 n, .string s, .slice ad l.len cap], .func (.func 144) #[] #[]] w fun e w' => ∃ ad' cap', e = .returned (.slice ad' l.len cap') ∧ VOwn w' w.heap.size (.slice ad' l.len cap') ((F.list l).map verOf4) ∧ Below w.heap.size w w' := by
 have eg : ∀ args w, (callFunc 144 args).run Tryz.prog w = .ok (.enter 144 args) w := enters_of Tryz.func144 (by kernel_rfl) rfl
 obtain ⟨i0, hi, hz0, hz1, hz2⟩ := info_v
 have HR := Lib.hid h
 have HF := Lib.hid hf
 have HLL := Lib.hid (F.list_len l)
 have HTH := Lib.hid (fun j (hj : j < l.len) => F.list_th l j hj)
 have HGT := Lib.hid (fun W (hW : RepG W (fun _ => True) ad l) j (hj : j < l.len) => hW.th hj)
 obtain ⟨N, hN⟩ : ∃ N, l.len = N := ⟨_, rfl⟩
 rw [hN] at HLL HTH HGT hl ⊢
 clear h hf hN
 go_enter Tryz.func143, Tryz.ntmps143
 go_wp2_with fail
 go_loopw [5, 12] (fun vv iv wr => ∃ (q : Nat) (la : Option Addr) (lc : Nat), iv = .int .i64 q ∧ q ≤ N ∧ vv = .slice la q lc ∧ Hid (AllVOwn w (F.list l) q la lc wr)) (fun _ iv _ => N - (intOf iv).toNat)
 case atStart =>
  refine ⟨0, _, 0, rfl, Nat.zero_le _, rfl, Lib.hid ⟨?_, ((Below.refl _ _).alloc (Nat.le_refl _) _).alloc (by simp) _, by simp⟩⟩
  exact row_start w _ _ 3 _
 case round =>
  obtain ⟨q, la, lc, rfl, hq, rfl, HA⟩ := hrel
  by_cases hlt : q < N
  ·have hltz : (q : Int) < (N : Int) := by omega
   obtain ⟨b, o, a, c, rfl, hbw, c0, c1, c2', c3, hg⟩ := HGT.out wr (HR.out.down HA.out.bl) q hlt
   have HX := Lib.hid (HTH.out q hlt)
   have HLN := Lib.hid (show (((F.list l).take q).map verOf4).length = q by rw [List.length_map, List.length_take, HLL.out]; omega)
   generalize l.th q = x at *
   have HC := Lib.hid (HF.out x a c (wr.alloc (.cells #[.int .i64 x.k, .int .i64 x.n, .string x.s, .slice a x.l.len c] 88)) (List.mem_of_getElem? HX.out) (hg.down ((Below.refl _ _).alloc (Nat.le_refl _) _)))
   have HTM := Lib.hid (take_map (F.list l) verOf4 q x HX.out)
   clear hg
   generalize verOf4 x = y at *
   unfold veagg at HC
   go_wp2_with fail
   refine HC.out.mono ?_
   rintro _ w2 ⟨rfl, hb2⟩
   have hbw2 : Below wr.heap.size wr w2 := ((Below.refl _ wr).alloc (Nat.le_refl _) _).trans (hb2.mono (by simp))
   have HB2 := Lib.hid hbw2
   have hrow : w2.ownsRow (w.heap.size + 1) 55 3 (.slice la q lc) q (vcells (((F.list l).take q).map verOf4)) := by
    have := HA.out.own.below hbw2
    unfold VOwn at this
    rw [HLN.out] at this
    exact this
   obtain ⟨CS, hCS⟩ : ∃ CS, vcells (((F.list l).take q).map verOf4) = CS := ⟨_, rfl⟩
   rw [hCS] at hrow
   have HCS := Lib.hid hCS
   have HOW := Lib.hid (owns_below hrow ((Below.refl w2.heap.size w2).alloc (Nat.le_refl _) (.cells #[.int .i64 y.ver, .bool y.gone, .string y.body] 55)))
   have HGE := Lib.hid (show w.heap.size + 1 ≤ (w2.alloc (.cells #[.int .i64 y.ver, .bool y.gone, .string y.body] 55)).heap.size by have h1 := HA.out.ge; have h2 := hbw2.size; simp; omega)
   clear hb2 hbw2 c0 c1 c2' c3 hrow hCS
   go_wp2_with (at_builtin; refine wpList_append_own_at _ rfl (.tmp 16) (.tmp 20) 43 rfl (w.heap.size + 1) 55 i0 _ 3 32 Tryz.underlying43 hi hz0 hz1 hz2 rfl (by decide) (.slice la q lc) q CS rfl HOW.out ⟨w2.heap.size, 0, none⟩ 1 1 [.int .i64 y.ver, .bool y.gone, .string y.body] rfl rfl ?c1 ?c2 (by unfold maxLen; omega) (by omega) HGE.out ?_)
   case c1 => exact World.news_of_block (cs := #[.int .i64 y.ver, .bool y.gone, .string y.body]) (heap_alloc_new w2 _)
   case c2 =>
    intro u hu
    simp at hu
    rcases hu with rfl | rfl | rfl <;> rfl
   intro v' w3 hown3 hgrow3 _ hloc3
   obtain ⟨la3, lc3, rfl⟩ := owns_shape4 hown3
   have hnb := owns_base HOW.out
   have hbl3 := ((HA.out.bl.trans (HB2.out.mono HA.out.bl.size)).alloc (Nat.le_trans HA.out.bl.size HB2.out.size) _).grown hgrow3 (Nat.le_trans (Nat.le_succ _) HGE.out) (fun j hj => Nat.le_trans (Nat.le_succ _) (hnb j hj))
   have hge3 : w.heap.size + 1 ≤ w3.heap.size := Nat.le_trans HGE.out hgrow3.size
   have HE : Hid (AllVOwn w (F.list l) (q + 1) la3 lc3 w3) := Lib.hid ⟨by
    rw [HTM.out]
    unfold VOwn
    rw [vcells_append, List.length_append, HLN.out, HCS.out]
    exact hown3, hbl3, hge3⟩
   clear hown3 hgrow3 hloc3 hnb hbl3 hge3
   go_wp2_with fail
   go_roundw
   case rel => exact ⟨q + 1, la3, lc3, by go_num, by omega, rfl, HE⟩
   case measure => simp [intOf]; omega
  ·have hltz : ¬ (q : Int) < (N : Int) := by omega
   obtain rfl : q = N := by omega
   have HE : Hid (VOwn wr w.heap.size (.slice la q lc) ((F.list l).map verOf4)) := Lib.hid (by
    have := HA.out.own
    rw [List.take_of_length_le (by rw [HLL.out]; exact Nat.le_refl _)] at this
    exact this.mono (by omega))
   go_wp2_with fail
   go_ret
   exact ⟨la, lc, rfl, HE.out, HA.out.bl⟩
structure AllMOwn (w : World) (L : List V4) (k : Nat) (la : Option Addr) (lc : Nat) (wr : World) : Prop where
 own : MOwn wr (w.heap.size + 1) (.slice la k lc) ((L.take k).map memOf4)
 bl : Below w.heap.size w wr
 ge : w.heap.size + 1 ≤ wr.heap.size
theorem mall_p (k n : Int) (s : ByteArray) (l : F) (ad : Option Addr) (cap : Nat) (w : World) (h : RepG w (fun _ => True) ad l) (hl : l.len ≤ 1000000)
  (hf : ∀ (x : V4) a c W, x ∈ F.list l → RepG W (fun _ => True) a x.l → Calls Tryz.prog 102 #[.agg #[.int .i64 x.k, .int .i64 x.n, .string x.s, .slice a x.l.len c]] W (fun e w' => e = .returned (.agg #[.int .i64 (memOf4 x).req, .int .i64 (memOf4 x).res.err, .int .i64 (memOf4 x).res.ver]) ∧ Below W.heap.size W w')) :
  Calls Tryz.prog 101 #[.agg #[.int .i64 k, .int .i64 n, .string s, .slice ad l.len cap], .func (.func 102) #[] #[]] w fun e w' => ∃ ad' cap', e = .returned (.slice ad' l.len cap') ∧ MOwn w' w.heap.size (.slice ad' l.len cap') ((F.list l).map memOf4) ∧ Below w.heap.size w w' := by
 have eg : ∀ args w, (callFunc 102 args).run Tryz.prog w = .ok (.enter 102 args) w := enters_of Tryz.func102 (by kernel_rfl) rfl
 obtain ⟨i0, hi, hz0, hz1, hz2⟩ := mem_info
 have HR := Lib.hid h
 have HF := Lib.hid hf
 have HLL := Lib.hid (F.list_len l)
 have HTH := Lib.hid (fun j (hj : j < l.len) => F.list_th l j hj)
 have HGT := Lib.hid (fun W (hW : RepG W (fun _ => True) ad l) j (hj : j < l.len) => hW.th hj)
 obtain ⟨N, hN⟩ : ∃ N, l.len = N := ⟨_, rfl⟩
 rw [hN] at HLL HTH HGT hl ⊢
 clear h hf hN
 go_enter Tryz.func101, Tryz.ntmps101
 go_wp2_with fail
 go_loopw [5, 12] (fun vv iv wr => ∃ (q : Nat) (la : Option Addr) (lc : Nat), iv = .int .i64 q ∧ q ≤ N ∧ vv = .slice la q lc ∧ Hid (AllMOwn w (F.list l) q la lc wr)) (fun _ iv _ => N - (intOf iv).toNat)
 case atStart =>
  refine ⟨0, _, 0, rfl, Nat.zero_le _, rfl, Lib.hid ⟨?_, ((Below.refl _ _).alloc (Nat.le_refl _) _).alloc (by simp) _, by simp⟩⟩
  exact row_start w _ _ 3 _
 case round =>
  obtain ⟨q, la, lc, rfl, hq, rfl, HA⟩ := hrel
  by_cases hlt : q < N
  ·have hltz : (q : Int) < (N : Int) := by omega
   obtain ⟨b, o, a, c, rfl, hbw, c0, c1, c2', c3, hg⟩ := HGT.out wr (HR.out.down HA.out.bl) q hlt
   have HX := Lib.hid (HTH.out q hlt)
   have HLN := Lib.hid (show (((F.list l).take q).map memOf4).length = q by rw [List.length_map, List.length_take, HLL.out]; omega)
   generalize l.th q = x at *
   have HC := Lib.hid (HF.out x a c (wr.alloc (.cells #[.int .i64 x.k, .int .i64 x.n, .string x.s, .slice a x.l.len c] 88)) (List.mem_of_getElem? HX.out) (hg.down ((Below.refl _ _).alloc (Nat.le_refl _) _)))
   have HTM := Lib.hid (take_map (F.list l) memOf4 q x HX.out)
   clear hg
   generalize memOf4 x = y at *
   skip
   go_wp2_with fail
   refine HC.out.mono ?_
   rintro _ w2 ⟨rfl, hb2⟩
   have hbw2 : Below wr.heap.size wr w2 := ((Below.refl _ wr).alloc (Nat.le_refl _) _).trans (hb2.mono (by simp))
   have HB2 := Lib.hid hbw2
   have hrow : w2.ownsRow (w.heap.size + 1) 76 3 (.slice la q lc) q (mcells (((F.list l).take q).map memOf4)) := by
    have := HA.out.own.below hbw2
    unfold MOwn at this
    rw [HLN.out] at this
    exact this
   obtain ⟨CS, hCS⟩ : ∃ CS, mcells (((F.list l).take q).map memOf4) = CS := ⟨_, rfl⟩
   rw [hCS] at hrow
   have HCS := Lib.hid hCS
   have HOW := Lib.hid (owns_below hrow ((Below.refl w2.heap.size w2).alloc (Nat.le_refl _) (.cells #[.int .i64 y.req, .int .i64 y.res.err, .int .i64 y.res.ver] 76)))
   have HGE := Lib.hid (show w.heap.size + 1 ≤ (w2.alloc (.cells #[.int .i64 y.req, .int .i64 y.res.err, .int .i64 y.res.ver] 76)).heap.size by have h1 := HA.out.ge; have h2 := hbw2.size; simp; omega)
   clear hb2 hbw2 c0 c1 c2' c3 hrow hCS
   go_wp2_with (at_builtin; refine wpList_append_own_at _ rfl (.tmp 16) (.tmp 20) 24 rfl (w.heap.size + 1) 76 i0 _ 3 24 Tryz.underlying24 hi hz0 hz1 hz2 rfl (by decide) (.slice la q lc) q CS rfl HOW.out ⟨w2.heap.size, 0, none⟩ 1 1 [.int .i64 y.req, .int .i64 y.res.err, .int .i64 y.res.ver] rfl rfl ?c1 ?c2 (by unfold maxLen; omega) (by omega) HGE.out ?_)
   case c1 => exact World.news_of_block (cs := #[.int .i64 y.req, .int .i64 y.res.err, .int .i64 y.res.ver]) (heap_alloc_new w2 _)
   case c2 =>
    intro u hu
    simp at hu
    rcases hu with rfl | rfl | rfl <;> rfl
   intro v' w3 hown3 hgrow3 _ hloc3
   obtain ⟨la3, lc3, rfl⟩ := owns_shape4 hown3
   have hnb := owns_base HOW.out
   have hbl3 := ((HA.out.bl.trans (HB2.out.mono HA.out.bl.size)).alloc (Nat.le_trans HA.out.bl.size HB2.out.size) _).grown hgrow3 (Nat.le_trans (Nat.le_succ _) HGE.out) (fun j hj => Nat.le_trans (Nat.le_succ _) (hnb j hj))
   have hge3 : w.heap.size + 1 ≤ w3.heap.size := Nat.le_trans HGE.out hgrow3.size
   have HE : Hid (AllMOwn w (F.list l) (q + 1) la3 lc3 w3) := Lib.hid ⟨by
    rw [HTM.out]
    unfold MOwn
    rw [mcells_append, List.length_append, HLN.out, HCS.out]
    exact hown3, hbl3, hge3⟩
   clear hown3 hgrow3 hloc3 hnb hbl3 hge3
   go_wp2_with fail
   go_roundw
   case rel => exact ⟨q + 1, la3, lc3, by go_num, by omega, rfl, HE⟩
   case measure => simp [intOf]; omega
  ·have hltz : ¬ (q : Int) < (N : Int) := by omega
   obtain rfl : q = N := by omega
   have HE : Hid (MOwn wr w.heap.size (.slice la q lc) ((F.list l).map memOf4)) := Lib.hid (by
    have := HA.out.own
    rw [List.take_of_length_le (by rw [HLL.out]; exact Nat.le_refl _)] at this
    exact this.mono (by omega))
   go_wp2_with fail
   go_ret
   exact ⟨la, lc, rfl, HE.out, HA.out.bl⟩
def EnAns (y : En) (w : World) (e : Ending) (w' : World) : Prop := ∃ a2 c2, e = .returned (.agg #[.string y.key, .slice a2 y.vs.length c2]) ∧ VOwn w' w.heap.size (.slice a2 y.vs.length c2) y.vs ∧ Below w.heap.size w w'
theorem entof_p (x : V4) (ad : Option Addr) (cap : Nat) (w : World) (h : RepG w (fun _ => True) ad x.l) (hn : (x.l.th 1).l.len ≤ 1000000) :
  Calls Tryz.prog 100 #[.agg #[.int .i64 x.k, .int .i64 x.n, .string x.s, .slice ad x.l.len cap]] w (EnAns (entOf4 x) w) := by
 obtain ⟨k, n, s, l⟩ := x
 dsimp only at h ⊢
 unfold entOf4
 dsimp only
 have HP0 : Hid (∀ W, RepG W (fun _ => True) ad l → Calls Tryz.prog 98 #[.agg #[.int .i64 k, .int .i64 n, .string s, .slice ad l.len cap], .int .i64 0] W (PAns (l.th 0) W)) := Lib.hid (fun W hW => part_p k n s l ad cap 0 W hW)
 have HP1 : Hid (∀ W, RepG W (fun _ => True) ad l → Calls Tryz.prog 98 #[.agg #[.int .i64 k, .int .i64 n, .string s, .slice ad l.len cap], .int .i64 1] W (PAns (l.th 1) W)) := Lib.hid (fun W hW => part_p k n s l ad cap 1 W hW)
 have HP2 : Hid (∀ W, RepG W (fun _ => True) ad l → Calls Tryz.prog 98 #[.agg #[.int .i64 k, .int .i64 n, .string s, .slice ad l.len cap], .int .i64 2] W (PAns (l.th 2) W)) := Lib.hid (fun W hW => part_p k n s l ad cap 2 W hW)
 have HR := Lib.hid h
 dsimp only at hn
 have HLN := Lib.hid hn
 clear hn
 have HML := Lib.hid (show ((F.list (l.th 1).l).map verOf4).length = (l.th 1).l.len by rw [List.length_map, F.list_len])
 unfold EnAns
 dsimp only
 generalize l.th 0 = p0 at *
 generalize l.th 1 = p1 at *
 generalize l.th 2 = p2 at *
 generalize l.len = N at *
 have HB : Hid (Below w.heap.size w ((w.alloc (.cells #[.int .i64 k, .int .i64 n, .string s, .slice ad N cap] 88)).alloc (.cells #[.string ⟨#[]⟩, .slice none 0 0] 45))) := Lib.hid (((Below.refl _ _).alloc (Nat.le_refl _) _).alloc (by simp) _)
 have HS0 : Hid (∀ W, W = ((w.alloc (.cells #[.int .i64 k, .int .i64 n, .string s, .slice ad N cap] 88)).alloc (.cells #[.string ⟨#[]⟩, .slice none 0 0] 45)) → (W.cell? ⟨w.heap.size, 0, none⟩ = some (.int .i64 k) ∧ W.cell? ⟨w.heap.size, 1, none⟩ = some (.int .i64 n) ∧ W.cell? ⟨w.heap.size, 2, none⟩ = some (.string s) ∧ W.cell? ⟨w.heap.size, 3, none⟩ = some (.slice ad N cap)) ∧ W.heap[w.heap.size + 1]? = some (.cells #[.string ⟨#[]⟩, .slice none 0 0] 45 (0, 0)) ∧ w.heap.size + 2 ≤ W.heap.size) := Lib.hid (by
  rintro _ rfl
  refine ⟨⟨?_, ?_, ?_, ?_⟩, ?_, by simp⟩
  ·go_simp
  ·go_simp
  ·go_simp
  ·go_simp
  ·have := heap_alloc_new (w.alloc (.cells #[.int .i64 k, .int .i64 n, .string s, .slice ad N cap] 88)) (.cells #[.string ⟨#[]⟩, .slice none 0 0] 45)
   simpa using this)
 clear h
 go_enter Tryz.func100, Tryz.ntmps100
 go_wp2_with fail
 generalize ((w.alloc (.cells #[.int .i64 k, .int .i64 n, .string s, .slice ad N cap] 88)).alloc (.cells #[.string ⟨#[]⟩, .slice none 0 0] 45)) = W at *
 obtain ⟨hc, hv, hsz⟩ := HS0.out W rfl
 have HS : Hid (∀ W', Below W.heap.size W W' → W'.cell? ⟨w.heap.size, 0, none⟩ = some (.int .i64 k) ∧ W'.cell? ⟨w.heap.size, 1, none⟩ = some (.int .i64 n) ∧ W'.cell? ⟨w.heap.size, 2, none⟩ = some (.string s) ∧ W'.cell? ⟨w.heap.size, 3, none⟩ = some (.slice ad N cap)) := Lib.hid (fun W' hW => by
  obtain ⟨s0, s1, s2, s3⟩ := hc
  exact ⟨cell_kept hW (Nat.le_refl _) s0, cell_kept hW (Nat.le_refl _) s1, cell_kept hW (Nat.le_refl _) s2, cell_kept hW (Nat.le_refl _) s3⟩)
 have HV := Lib.hid hv
 clear hc hv HS0
 have hS0 := HS.out _ (Below.refl W.heap.size W).drew
 refine wp_region_last (S := fun W' => W'.cell? ⟨w.heap.size, 0, none⟩ = some (.int .i64 k) ∧ W'.cell? ⟨w.heap.size, 1, none⟩ = some (.int .i64 n) ∧ W'.cell? ⟨w.heap.size, 2, none⟩ = some (.string s) ∧ W'.cell? ⟨w.heap.size, 3, none⟩ = some (.slice ad N cap)) (by kernel_rfl) (ops := List.toArray [_, _, _, _, _, _, _]) (o := _) rfl (by kernel_rfl) ?_
 refine tk 0 (.agg #[.int .i64 k, .int .i64 n, .string s, .slice ad N cap]) rfl ?_ hS0 ?_
 ·intro w' ⟨s0, s1, s2, s3⟩; go_simp
 refine tk 3 (.agg #[.int .i64 k, .int .i64 n, .string s, .slice ad N cap]) rfl ?_ hS0 ?_
 ·intro w' ⟨s0, s1, s2, s3⟩; go_simp
 simp only [List.getElem_toArray, List.getElem_cons_succ, List.getElem_cons_zero, Act.put, List.setIfInBounds_toArray, List.set_cons_zero, List.set_cons_succ]
 have HX0 := Lib.hid (Below.refl W.heap.size W).drew
 clear hS0
 refine wpAnyH_ready (rs := [1]) (by kernel_rfl) (by simp) ?_
 refine AllReadyH.cons rfl (fun K hK => ?_) AllReadyH.nil
 simp only [List.getElem_toArray, List.getElem_cons_succ, List.getElem_cons_zero]
 go_simp
 refine (HP0.out _ (HR.out.down (HB.out.trans (HX0.out.mono HB.out.size)))).mono ?_
 rintro _ y1 ⟨hy, a1, c1, rfl, hg1⟩
 have HX1 := Lib.hid (HX0.out.trans (hy.mono HX0.out.size))
 clear hy hg1
 refine hK.out _ _ (HS.out _ HX1.out) (fun _ => ?_)
 clear hK
 have hS1 := HS.out _ HX1.out
 refine tk 2 (.string p0.s) rfl ?_ hS1 ?_
 ·intro w' ⟨s0, s1, s2, s3⟩; go_simp; rw [fld2]; rfl
 simp only [List.getElem_toArray, List.getElem_cons_succ, List.getElem_cons_zero, Act.put, List.setIfInBounds_toArray, List.set_cons_zero, List.set_cons_succ]
 clear hS1
 refine wpAnyH_ready (rs := [4]) (by kernel_rfl) (by simp) ?_
 refine AllReadyH.cons rfl (fun K hK => ?_) AllReadyH.nil
 simp only [List.getElem_toArray, List.getElem_cons_succ, List.getElem_cons_zero]
 go_simp
 refine (HP1.out _ (HR.out.down (HB.out.trans (HX1.out.mono HB.out.size)))).mono ?_
 rintro _ y2 ⟨hy, a2, c2, rfl, hg2⟩
 have HX2 := Lib.hid (HX1.out.trans (hy.mono HX1.out.size))
 have HG2 := Lib.hid hg2
 clear hy hg2
 refine hK.out _ _ (HS.out _ HX2.out) (fun _ => ?_)
 clear hK
 refine wpAnyH_ready (rs := [5]) (by kernel_rfl) (by simp) ?_
 refine AllReadyH.cons rfl (fun K hK => ?_) AllReadyH.nil
 simp only [List.getElem_toArray, List.getElem_cons_succ, List.getElem_cons_zero]
 go_simp
 refine (vall_p p1.k p1.n p1.s p1.l a2 c2 _ HG2.out HLN.out (fun x a c W _ hW => verof_p x a c W hW)).mono ?_
 rintro _ y3 ⟨a3, c3, rfl, ho, hy⟩
 have HX3 := Lib.hid (HX2.out.trans (hy.mono HX2.out.size))
 have HO3 := Lib.hid (ho.mono (show w.heap.size + 2 ≤ _ by have := HX2.out.size; omega))
 clear hy ho
 refine hK.out _ _ (HS.out _ HX3.out) (fun _ => ?_)
 clear hK
 have hS3 := HS.out _ HX3.out
 refine tk 6 (.agg #[.string p0.s, .slice a3 p1.l.len c3]) rfl ?_ hS3 ?_
 ·intro w' ⟨s0, s1, s2, s3⟩; go_simp
 simp only [List.getElem_toArray, List.getElem_cons_succ, List.getElem_cons_zero, Act.put, List.setIfInBounds_toArray, List.set_cons_zero, List.set_cons_succ]
 clear hS3
 refine wpAnyH_done (by kernel_rfl) ?_ _
 have hz := (HX3.out.block (w.heap.size + 1) (by omega)).trans HV.out
 obtain ⟨_, hf, _, _, hcl⟩ := block_facts hz
 have f0 := hf 0
 have v0 := hcl 0 _ rfl
 have f1 := hf 1
 have v1 := hcl 1 _ rfl
 have HLT := Lib.hid (show w.heap.size + 1 < y3.heap.size by have := HX3.out.size; omega)
 clear hz hf hcl
 rw [Exit.then]
 rw [if_pos (by rfl)]
 go_simp
 go_wp2_with fail
 have HO4 := Lib.hid ((HO3.out.kept (w' := (y3.setCell ⟨w.heap.size + 1, 0, none⟩ (.string p0.s)).setCell ⟨w.heap.size + 1, 1, none⟩ (.slice a3 p1.l.len c3)) (fun g hg => by
  have := (HO3.out.lt hg).1
  have hne : g ≠ w.heap.size + 1 := by omega
  rw [Below.heap_setCell _ _ _ _ hne, Below.heap_setCell _ _ _ _ hne])).mono (show w.heap.size ≤ w.heap.size + 2 by omega))
 have t0 : ((y3.setCell ⟨w.heap.size + 1, 0, none⟩ (.string p0.s)).setCell ⟨w.heap.size + 1, 1, none⟩ (.slice a3 p1.l.len c3)).cell? ⟨w.heap.size + 1, 0, none⟩ = some (.string p0.s) := by go_simp
 have t1 : ((y3.setCell ⟨w.heap.size + 1, 0, none⟩ (.string p0.s)).setCell ⟨w.heap.size + 1, 1, none⟩ (.slice a3 p1.l.len c3)).cell? ⟨w.heap.size + 1, 1, none⟩ = some (.slice a3 p1.l.len c3) := by go_simp
 have hB := (((HB.out.trans (HX3.out.mono HB.out.size)).setCell (p := ⟨w.heap.size + 1, 0, none⟩) (by show w.heap.size ≤ w.heap.size + 1; omega) (.string p0.s)).setCell (p := ⟨w.heap.size + 1, 1, none⟩) (by show w.heap.size ≤ w.heap.size + 1; omega) (.slice a3 p1.l.len c3))
 rw [HML.out]
 exact bodyPost_ret (v := .agg #[.string p0.s, .slice a3 p1.l.len c3]) (by simp [results, Tryz.results100, go_sem, t0, t1]) rfl ⟨a3, c3, rfl, HO4.out, hB⟩
structure AllEOwn (w : World) (L : List V4) (k : Nat) (la : Option Addr) (lc : Nat) (wr : World) : Prop where
 own : EOwn wr (w.heap.size + 1) (.slice la k lc) ((L.take k).map entOf4)
 bl : Below w.heap.size w wr
 ge : w.heap.size + 1 ≤ wr.heap.size
theorem eall_p (k n : Int) (s : ByteArray) (l : F) (ad : Option Addr) (cap : Nat) (w : World) (h : RepG w (fun _ => True) ad l) (hl : l.len ≤ 1000000)
  (hf : ∀ (x : V4) a c W, x ∈ F.list l → RepG W (fun _ => True) a x.l → Calls Tryz.prog 100 #[.agg #[.int .i64 x.k, .int .i64 x.n, .string x.s, .slice a x.l.len c]] W (EnAns (entOf4 x) W)) :
  Calls Tryz.prog 99 #[.agg #[.int .i64 k, .int .i64 n, .string s, .slice ad l.len cap], .func (.func 100) #[] #[]] w fun e w' => ∃ ad' cap', e = .returned (.slice ad' l.len cap') ∧ EOwn w' w.heap.size (.slice ad' l.len cap') ((F.list l).map entOf4) ∧ Below w.heap.size w w' := by
 have eg : ∀ args w, (callFunc 100 args).run Tryz.prog w = .ok (.enter 100 args) w := enters_of Tryz.func100 (by kernel_rfl) rfl
 obtain ⟨i0, hi, hz0, hz1, hz2⟩ := ent_info
 have HR := Lib.hid h
 have HF := Lib.hid hf
 have HLL := Lib.hid (F.list_len l)
 have HTH := Lib.hid (fun j (hj : j < l.len) => F.list_th l j hj)
 have HGT := Lib.hid (fun W (hW : RepG W (fun _ => True) ad l) j (hj : j < l.len) => hW.th hj)
 obtain ⟨N, hN⟩ : ∃ N, l.len = N := ⟨_, rfl⟩
 rw [hN] at HLL HTH HGT hl ⊢
 clear h hf hN
 go_enter Tryz.func99, Tryz.ntmps99
 go_wp2_with fail
 go_loopw [5, 12] (fun vv iv wr => ∃ (q : Nat) (la : Option Addr) (lc : Nat), iv = .int .i64 q ∧ q ≤ N ∧ vv = .slice la q lc ∧ Hid (AllEOwn w (F.list l) q la lc wr)) (fun _ iv _ => N - (intOf iv).toNat)
 case atStart =>
  refine ⟨0, _, 0, rfl, Nat.zero_le _, rfl, Lib.hid ⟨?_, ((Below.refl _ _).alloc (Nat.le_refl _) _).alloc (by simp) _, by simp⟩⟩
  exact ⟨[], row_start w _ _ 2 _, trivial⟩
 case round =>
  obtain ⟨q, la, lc, rfl, hq, rfl, HA⟩ := hrel
  by_cases hlt : q < N
  ·have hltz : (q : Int) < (N : Int) := by omega
   obtain ⟨b, o, a, c, rfl, hbw, c0, c1, c2', c3, hg⟩ := HGT.out wr (HR.out.down HA.out.bl) q hlt
   have HX := Lib.hid (HTH.out q hlt)
   have HLN := Lib.hid (show (((F.list l).take q).map entOf4).length = q by rw [List.length_map, List.length_take, HLL.out]; omega)
   generalize l.th q = x at *
   have HC := Lib.hid (HF.out x a c (wr.alloc (.cells #[.int .i64 x.k, .int .i64 x.n, .string x.s, .slice a x.l.len c] 88)) (List.mem_of_getElem? HX.out) (hg.down ((Below.refl _ _).alloc (Nat.le_refl _) _)))
   have HTM := Lib.hid (take_map (F.list l) entOf4 q x HX.out)
   clear hg
   unfold EnAns at HC
   generalize entOf4 x = y at *
   go_wp2_with fail
   refine HC.out.mono ?_
   rintro _ w2 ⟨a2, c2, rfl, ho2, hb2⟩
   have hbw2 : Below wr.heap.size wr w2 := ((Below.refl _ wr).alloc (Nat.le_refl _) _).trans (hb2.mono (by simp))
   have HB2 := Lib.hid hbw2
   have HO2 := Lib.hid (ho2.mono (show w.heap.size + 1 ≤ _ by have := HA.out.ge; simp; omega))
   obtain ⟨ps, hrow, hfit⟩ := HA.out.own.below hbw2
   rw [HLN.out] at hrow
   have HROW := Lib.hid hrow
   have HFIT := Lib.hid hfit
   obtain ⟨n2, hn2⟩ : ∃ n2, y.vs.length = n2 := ⟨_, rfl⟩
   rw [hn2] at HO2 ⊢
   have HOW := Lib.hid (owns_below hrow ((Below.refl w2.heap.size w2).alloc (Nat.le_refl _) (.cells #[.string y.key, .slice a2 n2 c2] 45)))
   have HGE := Lib.hid (show w.heap.size + 1 ≤ (w2.alloc (.cells #[.string y.key, .slice a2 n2 c2] 45)).heap.size by have h1 := HA.out.ge; have h2 := hbw2.size; simp; omega)
   clear hb2 hbw2 c0 c1 c2' c3 ho2 hrow hfit hn2
   go_wp2_with (at_builtin; refine wpList_append_own_at _ rfl (.tmp 16) (.tmp 20) 23 rfl (w.heap.size + 1) 45 i0 _ 2 40 Tryz.underlying23 hi hz0 hz1 hz2 rfl (by decide) (.slice la q lc) q (ecells ps) rfl HOW.out ⟨w2.heap.size, 0, none⟩ 1 1 [.string y.key, .slice a2 n2 c2] rfl rfl ?c1 ?c2 (by unfold maxLen; omega) (by omega) HGE.out ?_)
   case c1 => exact World.news_of_block (cs := #[.string y.key, .slice a2 n2 c2]) (heap_alloc_new w2 _)
   case c2 =>
    intro u hu
    simp at hu
    rcases hu with rfl | rfl <;> rfl
   intro v' w3 hown3 hgrow3 _ hloc3
   obtain ⟨la3, lc3, rfl⟩ := owns_shape4 hown3
   have hnb := owns_base HOW.out
   have hbl3 := ((HA.out.bl.trans (HB2.out.mono HA.out.bl.size)).alloc (Nat.le_trans HA.out.bl.size HB2.out.size) _).grown hgrow3 (Nat.le_trans (Nat.le_succ _) HGE.out) (fun j hj => Nat.le_trans (Nat.le_succ _) (hnb j hj))
   have hge3 : w.heap.size + 1 ≤ w3.heap.size := Nat.le_trans HGE.out hgrow3.size
   have HE : Hid (AllEOwn w (F.list l) (q + 1) la3 lc3 w3) := Lib.hid ⟨by
    rw [HTM.out]
    exact EOwn.push (z := .slice a2 n2 c2) (by rw [HLN.out]; exact HROW.out) HFIT.out HO2.out (by rw [HLN.out]; exact hown3) hgrow3, hbl3, hge3⟩
   clear hown3 hgrow3 hloc3 hnb hbl3 hge3
   go_wp2_with fail
   go_roundw
   case rel => exact ⟨q + 1, la3, lc3, by go_num, by omega, rfl, HE⟩
   case measure => simp [intOf]; omega
  ·have hltz : ¬ (q : Int) < (N : Int) := by omega
   obtain rfl : q = N := by omega
   have HE : Hid (EOwn wr w.heap.size (.slice la q lc) ((F.list l).map entOf4)) := Lib.hid (by
    have := HA.out.own
    rw [List.take_of_length_le (by rw [HLL.out]; exact Nat.le_refl _)] at this
    exact this.mono (by omega))
   go_wp2_with fail
   go_ret
   exact ⟨la, lc, rfl, HE.out, HA.out.bl⟩
end Go.Proofs.YtlpgphiccjkenaaGreatDoor
namespace Go.Proofs.YtlpgphiccjkenaaGreatDoor
open Go.Shelf Go.RowKit
theorem gone_p (key : ByteArray) (v : Value) (l : List Ve) (w : World) (h : VsAt w v l) (hn : l.length ≤ 1000000) :
  Calls Tryz.prog 52 #[.agg #[.string key, v]] w fun e w' => e = .returned (.bool (!(nowE l).2)) ∧ Below w.heap.size w w' := by
 obtain ⟨ad, cap, rfl, _⟩ := h.shape
 have HB : Hid (Below w.heap.size w (w.alloc (.cells #[.string key, .slice ad l.length cap] 45))) := Lib.hid ((Below.refl _ w).alloc (Nat.le_refl _) _)
 have HN := Lib.hid (now_p key _ l _ (h.below HB.out) hn)
 unfold vtup at HN
 generalize nowE l = X at *
 clear h hn
 obtain ⟨x, b⟩ := X
 dsimp only at *
 go_enter Tryz.func52, Tryz.ntmps52
 go_wp2_with fail
 refine HN.out.mono ?_
 rintro _ w1 ⟨rfl, hb1⟩
 have HB1 := Lib.hid ((HB.out.trans (hb1.mono HB.out.size)).alloc (Nat.le_trans HB.out.size hb1.size) (.cells #[.int .i64 x.ver, .bool x.gone, .string x.body] 55))
 clear hb1
 go_wp2_with fail
 go_ret
 exact ⟨rfl, HB1.out⟩
theorem eindex_gone (v : Value) (l : List En) (w : World) (h : EsAt w v l) (hn : l.length ≤ 1000000) (hv : ∀ e ∈ l, e.vs.length ≤ 1000000) (hg : ∀ e ∈ l, (nowE e.vs).2 = true) :
  Calls Tryz.prog 88 #[v, .func (.func 52) #[] #[]] w fun e w' => e = .returned (.int .i64 (-1)) ∧ Below w.heap.size w w' := by
 have eg : ∀ args w, (callFunc 52 args).run Tryz.prog w = .ok (.enter 52 args) w := enters_of Tryz.func52 (by kernel_rfl) rfl
 have HP := Lib.hid (fun (x : En) (hx : x ∈ l) a c W (hW : VsAt W (.slice a x.vs.length c) x.vs) => gone_p x.key (.slice a x.vs.length c) x.vs W hW (hv x hx))
 have HV := Lib.hid h
 have HG := Lib.hid hg
 obtain ⟨ad, cap, rfl, hcap⟩ := h.shape
 clear h hg hv
 go_enter Tryz.func88, Tryz.ntmps88
 go_wp2
 go_loopg [5, 8] l.length (fun gg _ s8 wr => ∃ kk : Nat, kk ≤ l.length ∧ l.length - kk ≤ gg ∧ s8 = .int .i64 kk ∧ Hid (Below w.heap.size w wr))
 case atStart => exact ⟨0, Nat.zero_le _, by omega, rfl, Lib.hid (Below.refl _ _)⟩
 case round =>
  obtain ⟨kk, hkk, hg, rfl, BW⟩ := hrel
  by_cases hlt : kk < l.length
  ·have hltz : (kk : Int) < (l.length : Int) := by omega
   obtain ⟨x, hx⟩ : ∃ x, l[kk]? = some x := ⟨_, List.getElem?_eq_getElem hlt⟩
   obtain ⟨g, o, a, m, rfl, c0, c1, _, hvs⟩ := (HV.out.below BW.out).get hx
   have HC := Lib.hid (HP.out x (List.mem_of_getElem? hx) a m wr hvs)
   rw [HG.out x (List.mem_of_getElem? hx)] at HC
   clear hx hvs
   go_wp2_with fail
   refine HC.out.mono ?_
   rintro _ w' ⟨rfl, hb'⟩
   have HB' := Lib.hid (BW.out.trans (hb'.mono BW.out.size))
   clear hb'
   go_wp2_with fail
   go_roundg (l.length - (kk + 1))
   case measure => omega
   case rel => exact ⟨kk + 1, by omega, by omega, by go_num, HB'⟩
  ·have hltz : ¬ (kk : Int) < (l.length : Int) := by omega
   go_wp2
   go_ret
   exact ⟨rfl, BW.out⟩
theorem edel_none (v : Value) (l : List En) (w : World) (h : EsAt w v l) (hn : l.length ≤ 1000000) (hv : ∀ e ∈ l, e.vs.length ≤ 1000000) (hg : ∀ e ∈ l, (nowE e.vs).2 = true) :
  Calls Tryz.prog 50 #[v, .func (.func 52) #[] #[]] w fun e w' => e = .returned v ∧ Below w.heap.size w w' := by
 have HI := Lib.hid (eindex_gone v l w h hn hv hg)
 obtain ⟨ad, cap, rfl, hcap⟩ := h.shape
 clear h hg hv
 go_enter Tryz.func50, Tryz.ntmps50
 go_wp2_with fail
 refine HI.out.mono ?_
 rintro _ w1 ⟨rfl, hb1⟩
 have HB1 := Lib.hid hb1
 clear hb1
 go_wp2_with fail
 go_ret
 exact ⟨rfl, HB1.out⟩
theorem insort1 (ad : Option Addr) (n cap : Nat) (w : World) :
  Calls Tryz.prog 172 #[.slice ad n cap, .int .i64 0, .int .i64 1, .func (.func 94) #[] #[]] w fun e w' => e = .returned (.tuple #[]) ∧ w' = w := by
 go_enter Tryz.func172, Tryz.ntmps172
 go_wp2_with fail
 go_loop [8] (fun i => i = .int .i64 1) (fun _ => 0)
 case atStart => rfl
 case round =>
  obtain rfl := hrel
  go_wp2_with fail
  exact bodyPost_end (v := .tuple #[]) (by simp [results, Tryz.results172, go_sem]) rfl ⟨rfl, rfl⟩
theorem stable1 (ad : Option Addr) (n cap : Nat) (w : World) :
  Calls Tryz.prog 141 #[.slice ad n cap, .int .i64 1, .func (.func 94) #[] #[]] w fun e w' => e = .returned (.tuple #[]) ∧ w' = w := by
 have HI := Lib.hid (insort1 ad n cap w)
 go_enter Tryz.func141, Tryz.ntmps141
 go_wp2_with fail
 go_loop [7, 8] (fun a b => a = .int .i64 0 ∧ b = .int .i64 20) (fun _ _ => 0)
 case atStart => exact ⟨rfl, rfl⟩
 case round =>
  obtain ⟨rfl, rfl⟩ := hrel
  go_wp2_with fail
  refine HI.out.mono ?_
  rintro _ _ ⟨rfl, rfl⟩
  go_wp2_with fail
  go_loop [6, 7, 8] (fun q a b => q = .int .i64 20 ∧ a = .int .i64 0 ∧ b = .int .i64 20) (fun _ _ _ => 0)
  case atStart => exact ⟨rfl, rfl, rfl⟩
  case round =>
   obtain ⟨rfl, rfl, rfl⟩ := hrel
   go_wp2_with fail
   exact bodyPost_end (v := .tuple #[]) (by simp [results, Tryz.results141, go_sem]) rfl ⟨rfl, rfl⟩
theorem sort1 (ad : Option Addr) (cap : Nat) (w : World) :
  Calls Tryz.prog 93 #[.slice ad 1 cap, .func (.func 94) #[] #[]] w fun e w' => e = .returned (.tuple #[]) ∧ w' = w := by
 have HI := Lib.hid (stable1 ad 1 cap w)
 go_enter Tryz.func93, Tryz.ntmps93
 go_wp2_with fail
 refine HI.out.mono ?_
 rintro _ _ ⟨rfl, rfl⟩
 go_wp2_with fail
 exact bodyPost_end (v := .tuple #[]) (by simp [results, Tryz.results93, go_sem]) rfl ⟨rfl, rfl⟩
theorem compact1 (ad : Option Addr) (cap : Nat) (w : World) :
  Calls Tryz.prog 96 #[.slice ad 1 cap, .func (.func 97) #[] #[]] w fun e w' => e = .returned (.slice ad 1 cap) ∧ w' = w := by
 go_enter Tryz.func96, Tryz.ntmps96
 go_wp2_with fail
 go_ret
 exact ⟨rfl, rfl⟩
theorem page1 (ad : Option Addr) (cap : Nat) (w : World) :
  Calls Tryz.prog 53 #[.slice ad 1 cap, .int .i64 5] w fun e w' => e = .returned (.tuple #[.slice ad 1 cap, .bool false]) ∧ w' = w := by
 go_enter Tryz.func53, Tryz.ntmps53
 go_wp2_with fail
 go_ret2
 exact ⟨rfl, rfl⟩
theorem row_esat {w : World} {B : Nat} {v : Value} {l : List En} {ps : List (ByteArray × Value)} (h : w.ownsRow B 45 2 v l.length (ecells ps)) (hf : Fit (VsAt w) l ps) : EsAt w v l := by
 have hc := h
 rcases h.2 with ⟨rfl, h0⟩ | ⟨g, cap, cur, rfl, hb, hg, h1, h2, h3, h4⟩
 ·exact .inl ⟨rfl, List.length_eq_zero_iff.1 h0⟩
 ·refine .inr ⟨g, 0, cap, ps, rfl, h1, h2, (Array.getElem?_eq_some_iff.1 hg).1, fun j u hu => ?_, hf⟩
  have k0 := World.ownsRow.cells hc (g := g) rfl _ _ hu
  rw [Addr.add_lit] at k0
  exact k0
def B1Rel (w W0 : World) (e0 : En) (vv iv : Value) (wr : World) : Prop :=
 (iv = .int .i64 0 ∧ vv = .slice (some ⟨w.heap.size + 1, 0, none⟩) 0 0 ∧ wr = W0) ∨ (iv = .int .i64 1 ∧ ∃ a c, vv = .slice a 1 c ∧ Hid (EsAt wr (.slice a 1 c) [e0]) ∧ Hid (Below w.heap.size w wr))
theorem behind1 (s : Bk) (e0 : En) (u v : Value) (w : World) (h : BAt w s u v) (hl : s.l = [e0]) (hk : e0.key = ⟨#[107]⟩) :
  Calls Tryz.prog 51 #[bagg s u v, .string ⟨#[]⟩, .string ⟨#[]⟩] w fun e w' => ∃ ad cap, e = .returned (.slice ad 1 cap) ∧ EsAt w' (.slice ad 1 cap) [e0] ∧ Below w.heap.size w w' := by
 obtain ⟨i0, hi, hz0, hz1, hz2⟩ := ent_info
 obtain ⟨ad, cap, rfl, _⟩ := h.es.shape
 obtain ⟨ad', cap', rfl, _⟩ := h.ms.shape
 have hes := h.es
 rw [hl] at hes
 simp only [List.length_singleton] at hes
 obtain ⟨g, o, a, m, rfl, d0, d1, hg, hvs⟩ := hes.get (j := 0) (x := e0) rfl
 rw [hk] at d0
 have HVS := Lib.hid hvs
 have HK := Lib.hid hk
 rw [hl]
 simp only [List.length_singleton]
 clear h hes hvs hl hk
 unfold bagg
 go_enter Tryz.func51, Tryz.ntmps51
 have HB0 : Hid (Below w.heap.size w ((w.alloc (.cells #[.int .i64 s.seq, .slice (some ⟨g, o, none⟩) 1 cap, .slice ad' s.ms.length cap', .int .i64 s.l1, .int .i64 s.l2, .int .i64 s.l3, .int .i64 s.l4, .int .i64 s.l5] 27)).alloc (.cells #[] 45))) := Lib.hid (((Below.refl _ w).alloc (Nat.le_refl _) _).alloc (by simp) _)
 have HR0 := Lib.hid (row_start w 45 27 2 #[.int .i64 s.seq, .slice (some ⟨g, o, none⟩) 1 cap, .slice ad' s.ms.length cap', .int .i64 s.l1, .int .i64 s.l2, .int .i64 s.l3, .int .i64 s.l4, .int .i64 s.l5])
 have hs0 : ((w.alloc (.cells #[.int .i64 s.seq, .slice (some ⟨g, o, none⟩) 1 cap, .slice ad' s.ms.length cap', .int .i64 s.l1, .int .i64 s.l2, .int .i64 s.l3, .int .i64 s.l4, .int .i64 s.l5] 27)).alloc (.cells #[] 45)).heap.size = w.heap.size + 2 := by simp
 go_wp2_with fail
 generalize (w.alloc (.cells #[.int .i64 s.seq, .slice (some ⟨g, o, none⟩) 1 cap, .slice ad' s.ms.length cap', .int .i64 s.l1, .int .i64 s.l2, .int .i64 s.l3, .int .i64 s.l4, .int .i64 s.l5] 27)).alloc (.cells #[] 45) = W0 at *
 have c0 : W0.cell? ⟨g, o, none⟩ = some (.string ⟨#[107]⟩) := by have := cell_kept HB0.out (Nat.le_refl _) d0; simpa using this
 have c1 : W0.cell? ⟨g, o + 1, none⟩ = some (.slice a e0.vs.length m) := by have := cell_kept HB0.out (Nat.le_refl _) d1; simpa using this
 have hgW : g < W0.heap.size := by omega
 have hhp : Lib.hasPrefix (⟨#[107]⟩ : ByteArray).data.toList (⟨#[]⟩ : ByteArray).data.toList = true := rfl
 clear d0 d1
 go_loopw [7, 14] (fun vv iv wr => B1Rel w W0 e0 vv iv wr) (fun _ iv _ => 1 - (intOf iv).toNat)
 case atStart => exact .inl ⟨rfl, rfl, rfl⟩
 case round =>
  unfold B1Rel at hrel
  rcases hrel with ⟨rfl, rfl, rfl⟩ | ⟨rfl, a2, c2, rfl, HE, HBR⟩
  ·go_wp2_with fail
   refine (Tryz.strings_HasPrefix _ _ _).mono ?_
   rintro _ _ ⟨rfl, rfl⟩
   simp only [hhp]
   have HAL : Hid (Below wr.heap.size wr ((wr.alloc (.cells #[.string ⟨#[107]⟩, .slice a e0.vs.length m] 45)).alloc (.cells #[.string ⟨#[107]⟩, .slice a e0.vs.length m] 45))) := Lib.hid (((Below.refl _ wr).alloc (Nat.le_refl _) _).alloc (by simp) _)
   have HOW : Hid (((wr.alloc (.cells #[.string ⟨#[107]⟩, .slice a e0.vs.length m] 45)).alloc (.cells #[.string ⟨#[107]⟩, .slice a e0.vs.length m] 45)).ownsRow (w.heap.size + 1) 45 2 (.slice (some ⟨w.heap.size + 1, 0, none⟩) 0 0) 0 []) := Lib.hid (owns_below HR0.out HAL.out)
   go_wp2_with (at_builtin; refine wpList_append_own_at _ rfl (.tmp 28) (.tmp 30) 23 rfl (w.heap.size + 1) 45 i0 _ 2 40 Tryz.underlying23 hi hz0 hz1 hz2 rfl (by decide) (.slice (some ⟨w.heap.size + 1, 0, none⟩) 0 0) 0 [] rfl HOW.out ⟨w.heap.size + 2 + 1, 0, none⟩ 1 1 [.string ⟨#[107]⟩, .slice a e0.vs.length m] rfl rfl ?c1 ?c2 (by unfold maxLen; omega) (by omega) (by simp; omega) ?_)
   case c1 =>
    have := World.news_of_block (cs := #[.string ⟨#[107]⟩, .slice a e0.vs.length m]) (heap_alloc_new (wr.alloc (.cells #[.string ⟨#[107]⟩, .slice a e0.vs.length m] 45)) (.cells #[.string ⟨#[107]⟩, .slice a e0.vs.length m] 45))
    simpa [hs0] using this
   case c2 =>
    intro u hu
    simp at hu
    rcases hu with rfl | rfl <;> rfl
   intro v' w3 hown3 hgrow3 _ _
   obtain ⟨la3, lc3, rfl⟩ := owns_shape4 hown3
   have hbl3 : Below w.heap.size w w3 := (HB0.out.trans (HAL.out.mono HB0.out.size)).grown hgrow3 (by simp; omega) (fun j hj => by have := owns_base HOW.out j hj; omega)
   have HE : Hid (EsAt w3 (.slice la3 1 lc3) [e0]) := Lib.hid (row_esat (ps := [(⟨#[107]⟩, .slice a e0.vs.length m)]) hown3 ⟨HK.out.symm, HVS.out.below hbl3, trivial⟩)
   have HB3 := Lib.hid hbl3
   clear hown3 hgrow3 hbl3
   go_wp2_with fail
   go_roundw
   case rel => exact .inr ⟨rfl, la3, lc3, rfl, HE, HB3⟩
   case measure => simp [intOf]
  ·clear c0 c1 hgW
   go_wp2_with fail
   refine (sort1 a2 c2 _).mono ?_
   rintro _ _ ⟨rfl, rfl⟩
   go_wp2_with fail
   refine (compact1 a2 c2 _).mono ?_
   rintro _ _ ⟨rfl, rfl⟩
   go_wp2_with fail
   go_ret
   exact ⟨a2, c2, rfl, HE.out, HBR.out⟩
theorem names1 (s : Bk) (e0 : En) (u v : Value) (w : World) (h : BAt w s u v) (hl : s.l = [e0]) (hk : e0.key = ⟨#[107]⟩) (hv : e0.vs.length ≤ 1000000) (hg : (nowE e0.vs).2 = true) :
  Calls Tryz.prog 20 #[bagg s u v, .string ⟨#[]⟩, .string ⟨#[]⟩, .int .i64 5] w fun e w' => ∃ a c, e = .returned (.tuple #[.slice a 1 c, .bool false]) ∧ Below w.heap.size w w' := by
 obtain ⟨ad, cap, rfl, _⟩ := h.es.shape
 obtain ⟨ad', cap', rfl, _⟩ := h.ms.shape
 have HB := Lib.hid (fun W (hW : Below w.heap.size w W) => behind1 s e0 _ _ W (h.below hW) hl hk)
 have HD := Lib.hid (fun (a : Option Addr) c W (hW : EsAt W (.slice a 1 c) [e0]) => edel_none (.slice a 1 c) [e0] W hW (by simp) (fun x hx => by simp at hx; rw [hx]; exact hv) (fun x hx => by simp at hx; rw [hx]; exact hg))
 have HK := Lib.hid hk
 have hb0 : Below w.heap.size w (w.alloc (.cells #[.int .i64 s.seq, .slice ad s.l.length cap, .slice ad' s.ms.length cap', .int .i64 s.l1, .int .i64 s.l2, .int .i64 s.l3, .int .i64 s.l4, .int .i64 s.l5] 27)) := (Below.refl _ w).alloc (Nat.le_refl _) _
 have HB0 := Lib.hid hb0
 clear h hl hk hv hg hb0
 unfold bagg at *
 go_enter Tryz.func20, Tryz.ntmps20
 go_wp2_with fail
 refine (HB.out _ HB0.out).mono ?_
 rintro _ w1 ⟨a1, c1, rfl, hes, hb1⟩
 have HES := Lib.hid hes
 have HB1 := Lib.hid (HB0.out.trans (hb1.mono HB0.out.size))
 clear hes hb1 HB
 go_wp2_with fail
 refine (HD.out a1 c1 _ HES.out).mono ?_
 rintro _ w2 ⟨rfl, hb2⟩
 have HB2 := Lib.hid (HB1.out.trans (hb2.mono HB1.out.size))
 have HES2 := Lib.hid (HES.out.below hb2)
 clear hb2 HD HES
 go_wp2_with fail
 refine (page1 a1 c1 _).mono ?_
 rintro _ w2 ⟨rfl, rfl⟩
 go_wp2_with fail
 have hb3 : Below w2.heap.size w2 (w2.alloc (.cells #[] 9)) := (Below.refl _ _).alloc (Nat.le_refl _) _
 have HB3 := Lib.hid (HB2.out.trans (hb3.mono HB2.out.size))
 have HES3 := Lib.hid (HES2.out.below hb3)
 clear hb3 HES2
 generalize w2.alloc (.cells #[] 9) = W3 at *
 generalize w2.heap.size = X at *
 go_loopw [12, 29] (fun vv iv wr => Hid (Below W3.heap.size W3 wr) ∧ ((iv = .int .i64 0 ∧ vv = .slice (some ⟨X, 0, none⟩) 0 0) ∨ (iv = .int .i64 1 ∧ ∃ a c, vv = .slice a 1 c))) (fun _ iv _ => 1 - (intOf iv).toNat)
 case atStart => exact ⟨Lib.hid (Below.refl _ _), .inl ⟨rfl, rfl⟩⟩
 case round =>
  obtain ⟨BW, hrel⟩ := hrel
  rcases hrel with ⟨rfl, rfl⟩ | ⟨rfl, a2, c2, rfl⟩
  ·obtain ⟨g, o, a, m, rfl, d0, d1, hgl, _⟩ := (HES3.out.below BW.out).get (j := 0) (x := e0) rfl
   rw [HK.out] at d0
   rw [Nat.zero_mul, Nat.add_zero] at d0 d1
   go_wp2_with fail
   exact ⟨⟨Lib.hid ((((BW.out.alloc BW.out.size _).alloc (by have := BW.out.size; simp; omega) _).alloc (by have := BW.out.size; simp; omega) _).drew), .inr ⟨rfl, _, _, rfl⟩⟩, by simp [intOf]⟩
  ·go_wp2_with fail
   go_ret2
   exact ⟨a2, c2, rfl, HB3.out.trans (BW.out.mono HB3.out.size)⟩
end Go.Proofs.YtlpgphiccjkenaaGreatDoor
