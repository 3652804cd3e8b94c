/-
 Contracts of the program, and what they rest on.
-/
import Derived.Test.YtoealjcjpjapkaaGreatDoorM18
import Derived.Test.YtoealjcjpjapkaaGreatDoorM12
import Derived.Deep.AppendLies
set_option maxRecDepth 100000
set_option maxHeartbeats 16000000
namespace Go.Proofs.YtoealjcjpjapkaaGreatDoor
open Go.RowKit
def IsAt (w : World) (v : Value) (l : List Int) : Prop := ∃ g o cap, v = .slice (some ⟨g, o, none⟩) l.length cap ∧ g < w.heap.size ∧ ∀ j x, l[j]? = some x → w.cell? ⟨g, o + j, none⟩ = some (.int .i64 x)
theorem IsAt.below {w w' : World} {v : Value} {l : List Int} (h : IsAt w v l) (hb : Below w.heap.size w w') : IsAt w' v l := by
 obtain ⟨g, o, cap, rfl, hg, hc⟩ := h
 exact ⟨g, o, cap, rfl, Nat.lt_of_lt_of_le hg hb.size, fun j x hx => by rw [hb.cell (p := ⟨g, o + j, none⟩) hg]; exact hc j x hx⟩
theorem IsAt.shape {w : World} {v : Value} {l : List Int} (h : IsAt w v l) : ∃ ad cap, v = .slice ad l.length cap ∧ True := by
 obtain ⟨g, o, cap, rfl, _⟩ := h
 exact ⟨_, _, rfl, trivial⟩
theorem IsAt.get {w : World} {ad : Option Addr} {n c : Nat} {l : List Int} (h : IsAt w (.slice ad n c) l) {j : Nat} {x : Int} (hx : l[j]? = some x) :
  ∃ g o, ad = some ⟨g, o, none⟩ ∧ w.cell? ⟨g, o + j, none⟩ = some (.int .i64 x) ∧ g < w.heap.size := by
 obtain ⟨g, o, cap, e, hg, hc⟩ := h
 simp only [Value.slice.injEq] at e
 exact ⟨g, o, e.1, hc j x hx, hg⟩
theorem veach_p (v : Value) (l : List Ve) (w : World) (h : VsAt w v l) (hn : l.length ≤ 1000000) (hf : ∀ (x : Ve) W, Calls Tryz.prog 176 #[.agg #[.int .i64 x.ver, .bool x.gone, .string x.body]] W (VAns (b4ver x) W)) :
  Calls Tryz.prog 175 #[v, .func (.func 176) #[] #[]] w (VAns (b4list (l.map b4ver)) w) := by
 have eg : ∀ args w, (callFunc 176 args).run Tryz.prog w = .ok (.enter 176 args) w := enters_of Tryz.func176 (by kernel_rfl) rfl
 obtain ⟨i0, hi, hz0, hz1, hz2⟩ := info_parts infoVal
 obtain ⟨ad, cap, rfl, _⟩ := h.shape
 have HA := Lib.hid h
 have HF := Lib.hid hf
 have HST := Lib.hid (EachR.start w (l.map b4ver) 35)
 clear h hf
 go_enter Tryz.func175, Tryz.ntmps175
 go_wp2_with fail
 go_loopw [5, 11] (fun vv iv wr => ∃ (k : Nat) (la : Option Addr) (lc : Nat) (xs : List Value), iv = .int .i64 k ∧ k ≤ l.length ∧ vv = .slice la k lc ∧ Hid (EachR w (l.map b4ver) k la lc xs wr)) (fun _ iv _ => l.length - (intOf iv).toNat)
 case atStart => exact ⟨0, _, 0, [], rfl, Nat.zero_le _, rfl, HST⟩
 case round =>
  obtain ⟨k, la, lc, xs, rfl, hk, rfl, HR⟩ := hrel
  by_cases hlt : k < l.length
  ·have hltz : (k : Int) < (l.length : Int) := by omega
   obtain ⟨x, hx⟩ : ∃ x, l[k]? = some x := ⟨_, List.getElem?_eq_getElem hlt⟩
   obtain ⟨g, o, rfl, d0, d1, d2, hgl⟩ := (HA.out.below HR.out.bl).get hx
   have HX := Lib.hid hx
   clear hx
   have HC := Lib.hid (HF.out x _ : Calls Tryz.prog 176 #[.agg #[.int .i64 x.ver, .bool x.gone, .string x.body]] (wr.alloc (.cells #[.int .i64 x.ver, .bool x.gone, .string x.body] 60)) (VAns (b4ver x) (wr.alloc (.cells #[.int .i64 x.ver, .bool x.gone, .string x.body] 60))))
   have HGX : Hid ((l.map b4ver)[k]? = some (b4ver x)) := Lib.hid (by rw [List.getElem?_map, HX.out]; rfl)
   obtain ⟨y, hy⟩ : ∃ y, b4ver x = y := ⟨_, rfl⟩
   rw [hy] at HC HGX
   clear hy
   go_wp2_with fail
   refine HC.out.mono ?_
   rintro _ w2 ⟨hb2, ad2, cap2, rfl, hg2⟩
   have hbw : Below wr.heap.size wr w2 := ((Below.refl _ wr).alloc (Nat.le_refl _) _).trans (hb2.mono (by simp))
   have HG2 := Lib.hid (show RepG w2 (fun b => wr.heap.size ≤ b) ad2 y.l from hg2.to (fun b hb _ => ⟨(show wr.heap.size ≤ b by have hb1 : (wr.alloc (.cells #[.int .i64 x.ver, .bool x.gone, .string x.body] 60)).heap.size ≤ b := hb; simp at hb1; omega), rfl⟩))
   have HB2 := Lib.hid hbw
   obtain ⟨N, hN⟩ : ∃ N, y.l.len = N := ⟨_, rfl⟩
   rw [hN]
   have HN := Lib.hid hN
   have HOW := Lib.hid (owns_below HR.out.own (hbw.alloc hbw.size (.cells #[.int .i64 y.k, .int .i64 y.n, .string y.s, .slice ad2 N cap2] 35)))
   have HGE := Lib.hid (show w.heap.size + 1 ≤ (w2.alloc (.cells #[.int .i64 y.k, .int .i64 y.n, .string y.s, .slice ad2 N cap2] 35)).heap.size by have h1 := HR.out.ge; have h2 := hbw.size; simp; omega)
   clear hb2 hg2 hbw hN d0 d1 d2
   go_wp2_with (at_builtin; refine wpList_append_own_at _ rfl (.tmp 15) (.tmp 19) 33 rfl (w.heap.size + 1) 35 i0 _ 4 56 Tryz.underlying33 hi hz0 hz1 hz2 rfl (by decide) (.slice la k lc) k xs rfl HOW.out ⟨w2.heap.size, 0, none⟩ 1 1 [.int .i64 y.k, .int .i64 y.n, .string y.s, .slice ad2 N cap2] rfl rfl ?c1 ?c2 (by unfold maxLen; omega) (by omega) HGE.out ?_)
   case c1 => exact World.news_of_block (cs := #[.int .i64 y.k, .int .i64 y.n, .string y.s, .slice ad2 N cap2]) (heap_alloc_new w2 _)
   case c2 =>
    intro u hu
    simp at hu
    rcases hu with rfl | rfl | rfl | rfl <;> rfl
   intro v' w3 hown3 hgrow3 _ hloc3
   obtain ⟨la3, lc3, rfl, hE⟩ := HR.out.step HGX.out HB2.out HG2.out HN.out hown3 hgrow3 hloc3
   have HE := Lib.hid hE
   clear hown3 hgrow3 hloc3 hE
   go_wp2_with fail
   go_roundw
   case rel => exact ⟨k + 1, la3, lc3, _, by go_num, by omega, rfl, HE⟩
   case measure => simp [intOf]; omega
  ·have hltz : ¬ (k : Int) < (l.length : Int) := by omega
   obtain rfl : k = l.length := by omega
   go_wp2_with fail
   refine (blist_p la l.length lc _).mono ?_
   rintro _ w4 ⟨rfl, hb4⟩
   obtain ⟨hvc, hans⟩ := HR.out.fin (List.length_map ..) hb4
   have HANS := Lib.hid hans
   have HVC := Lib.hid (hvc.put 3 0 ⟨#[]⟩ la l.length lc)
   obtain ⟨⟨v0, v1, v2, v3⟩, f0, f1, f2, f3⟩ := hvc
   clear hb4 hans
   go_wp2_with fail
   obtain ⟨⟨t0, t1, t2, t3⟩, _⟩ := HVC.out
   exact bodyPost_ret (v := .agg #[.int .i64 3, .int .i64 0, .string ⟨#[]⟩, .slice la l.length lc]) (by simp [results, Tryz.results175, go_sem, t0, t1, t2, t3]) rfl HANS.out
theorem eeach_p (v : Value) (l : List En) (w : World) (h : EsAt w v l) (hn : l.length ≤ 1000000) (hf : ∀ (x : En) a c W, x ∈ l → VsAt W (.slice a x.vs.length c) x.vs → Calls Tryz.prog 143 #[.agg #[.string x.key, .slice a x.vs.length c]] W (VAns (b4ent x) W)) :
  Calls Tryz.prog 142 #[v, .func (.func 143) #[] #[]] w (VAns (b4list (l.map b4ent)) w) := by
 have eg : ∀ args w, (callFunc 143 args).run Tryz.prog w = .ok (.enter 143 args) w := enters_of Tryz.func143 (by kernel_rfl) rfl
 obtain ⟨i0, hi, hz0, hz1, hz2⟩ := info_parts infoVal
 obtain ⟨ad, cap, rfl, _⟩ := h.shape
 have HA := Lib.hid h
 have HF := Lib.hid hf
 have HST := Lib.hid (EachR.start w (l.map b4ent) 35)
 clear h hf
 go_enter Tryz.func142, Tryz.ntmps142
 go_wp2_with fail
 go_loopw [5, 11] (fun vv iv wr => ∃ (k : Nat) (la : Option Addr) (lc : Nat) (xs : List Value), iv = .int .i64 k ∧ k ≤ l.length ∧ vv = .slice la k lc ∧ Hid (EachR w (l.map b4ent) k la lc xs wr)) (fun _ iv _ => l.length - (intOf iv).toNat)
 case atStart => exact ⟨0, _, 0, [], rfl, Nat.zero_le _, rfl, HST⟩
 case round =>
  obtain ⟨k, la, lc, xs, rfl, hk, rfl, HR⟩ := hrel
  by_cases hlt : k < l.length
  ·have hltz : (k : Int) < (l.length : Int) := by omega
   obtain ⟨x, hx⟩ : ∃ x, l[k]? = some x := ⟨_, List.getElem?_eq_getElem hlt⟩
   obtain ⟨g, o, a, c, rfl, d0, d1, hgl, hV⟩ := (HA.out.below HR.out.bl).get hx
   have HX := Lib.hid hx
   clear hx
   have HV := Lib.hid hV
   clear hV
   have HC := Lib.hid (HF.out x a c _ (List.mem_of_getElem? HX.out) (HV.out.below ((Below.refl _ wr).alloc (Nat.le_refl _) _)) : Calls Tryz.prog 143 #[.agg #[.string x.key, .slice a x.vs.length c]] (wr.alloc (.cells #[.string x.key, .slice a x.vs.length c] 58)) (VAns (b4ent x) (wr.alloc (.cells #[.string x.key, .slice a x.vs.length c] 58))))
   have HGX : Hid ((l.map b4ent)[k]? = some (b4ent x)) := Lib.hid (by rw [List.getElem?_map, HX.out]; rfl)
   obtain ⟨y, hy⟩ : ∃ y, b4ent x = y := ⟨_, rfl⟩
   rw [hy] at HC HGX
   clear hy
   go_wp2_with fail
   refine HC.out.mono ?_
   rintro _ w2 ⟨hb2, ad2, cap2, rfl, hg2⟩
   have hbw : Below wr.heap.size wr w2 := ((Below.refl _ wr).alloc (Nat.le_refl _) _).trans (hb2.mono (by simp))
   have HG2 := Lib.hid (show RepG w2 (fun b => wr.heap.size ≤ b) ad2 y.l from hg2.to (fun b hb _ => ⟨(show wr.heap.size ≤ b by have hb1 : (wr.alloc (.cells #[.string x.key, .slice a x.vs.length c] 58)).heap.size ≤ b := hb; simp at hb1; omega), rfl⟩))
   have HB2 := Lib.hid hbw
   obtain ⟨N, hN⟩ : ∃ N, y.l.len = N := ⟨_, rfl⟩
   rw [hN]
   have HN := Lib.hid hN
   have HOW := Lib.hid (owns_below HR.out.own (hbw.alloc hbw.size (.cells #[.int .i64 y.k, .int .i64 y.n, .string y.s, .slice ad2 N cap2] 35)))
   have HGE := Lib.hid (show w.heap.size + 1 ≤ (w2.alloc (.cells #[.int .i64 y.k, .int .i64 y.n, .string y.s, .slice ad2 N cap2] 35)).heap.size by have h1 := HR.out.ge; have h2 := hbw.size; simp; omega)
   clear hb2 hg2 hbw hN d0 d1
   go_wp2_with (at_builtin; refine wpList_append_own_at _ rfl (.tmp 15) (.tmp 19) 33 rfl (w.heap.size + 1) 35 i0 _ 4 56 Tryz.underlying33 hi hz0 hz1 hz2 rfl (by decide) (.slice la k lc) k xs rfl HOW.out ⟨w2.heap.size, 0, none⟩ 1 1 [.int .i64 y.k, .int .i64 y.n, .string y.s, .slice ad2 N cap2] rfl rfl ?c1 ?c2 (by unfold maxLen; omega) (by omega) HGE.out ?_)
   case c1 => exact World.news_of_block (cs := #[.int .i64 y.k, .int .i64 y.n, .string y.s, .slice ad2 N cap2]) (heap_alloc_new w2 _)
   case c2 =>
    intro u hu
    simp at hu
    rcases hu with rfl | rfl | rfl | rfl <;> rfl
   intro v' w3 hown3 hgrow3 _ hloc3
   obtain ⟨la3, lc3, rfl, hE⟩ := HR.out.step HGX.out HB2.out HG2.out HN.out hown3 hgrow3 hloc3
   have HE := Lib.hid hE
   clear hown3 hgrow3 hloc3 hE
   go_wp2_with fail
   go_roundw
   case rel => exact ⟨k + 1, la3, lc3, _, by go_num, by omega, rfl, HE⟩
   case measure => simp [intOf]; omega
  ·have hltz : ¬ (k : Int) < (l.length : Int) := by omega
   obtain rfl : k = l.length := by omega
   go_wp2_with fail
   refine (blist_p la l.length lc _).mono ?_
   rintro _ w4 ⟨rfl, hb4⟩
   obtain ⟨hvc, hans⟩ := HR.out.fin (List.length_map ..) hb4
   have HANS := Lib.hid hans
   have HVC := Lib.hid (hvc.put 3 0 ⟨#[]⟩ la l.length lc)
   obtain ⟨⟨v0, v1, v2, v3⟩, f0, f1, f2, f3⟩ := hvc
   clear hb4 hans
   go_wp2_with fail
   obtain ⟨⟨t0, t1, t2, t3⟩, _⟩ := HVC.out
   exact bodyPost_ret (v := .agg #[.int .i64 3, .int .i64 0, .string ⟨#[]⟩, .slice la l.length lc]) (by simp [results, Tryz.results142, go_sem, t0, t1, t2, t3]) rfl HANS.out
theorem meach_p (v : Value) (l : List Me) (w : World) (h : MsAt w v l) (hn : l.length ≤ 1000000) (hf : ∀ (x : Me) W, Calls Tryz.prog 145 #[.agg #[.int .i64 x.req, .int .i64 x.res.err, .int .i64 x.res.ver]] W (VAns (b4mem x) W)) :
  Calls Tryz.prog 144 #[v, .func (.func 145) #[] #[]] w (VAns (b4list (l.map b4mem)) w) := by
 have eg : ∀ args w, (callFunc 145 args).run Tryz.prog w = .ok (.enter 145 args) w := enters_of Tryz.func145 (by kernel_rfl) rfl
 obtain ⟨i0, hi, hz0, hz1, hz2⟩ := info_parts infoVal
 obtain ⟨ad, cap, rfl, _⟩ := h.shape
 have HA := Lib.hid h
 have HF := Lib.hid hf
 have HST := Lib.hid (EachR.start w (l.map b4mem) 35)
 clear h hf
 go_enter Tryz.func144, Tryz.ntmps144
 go_wp2_with fail
 go_loopw [5, 11] (fun vv iv wr => ∃ (k : Nat) (la : Option Addr) (lc : Nat) (xs : List Value), iv = .int .i64 k ∧ k ≤ l.length ∧ vv = .slice la k lc ∧ Hid (EachR w (l.map b4mem) k la lc xs wr)) (fun _ iv _ => l.length - (intOf iv).toNat)
 case atStart => exact ⟨0, _, 0, [], rfl, Nat.zero_le _, rfl, HST⟩
 case round =>
  obtain ⟨k, la, lc, xs, rfl, hk, rfl, HR⟩ := hrel
  by_cases hlt : k < l.length
  ·have hltz : (k : Int) < (l.length : Int) := by omega
   obtain ⟨x, hx⟩ : ∃ x, l[k]? = some x := ⟨_, List.getElem?_eq_getElem hlt⟩
   obtain ⟨g, o, rfl, d0, d1, d2, hgl⟩ := (HA.out.below HR.out.bl).get hx
   have HX := Lib.hid hx
   clear hx
   have HC := Lib.hid (HF.out x _ : Calls Tryz.prog 145 #[.agg #[.int .i64 x.req, .int .i64 x.res.err, .int .i64 x.res.ver]] (wr.alloc (.cells #[.int .i64 x.req, .int .i64 x.res.err, .int .i64 x.res.ver] 127)) (VAns (b4mem x) (wr.alloc (.cells #[.int .i64 x.req, .int .i64 x.res.err, .int .i64 x.res.ver] 127))))
   have HGX : Hid ((l.map b4mem)[k]? = some (b4mem x)) := Lib.hid (by rw [List.getElem?_map, HX.out]; rfl)
   obtain ⟨y, hy⟩ : ∃ y, b4mem x = y := ⟨_, rfl⟩
   rw [hy] at HC HGX
   clear hy
   go_wp2_with fail
   refine HC.out.mono ?_
   rintro _ w2 ⟨hb2, ad2, cap2, rfl, hg2⟩
   have hbw : Below wr.heap.size wr w2 := ((Below.refl _ wr).alloc (Nat.le_refl _) _).trans (hb2.mono (by simp))
   have HG2 := Lib.hid (show RepG w2 (fun b => wr.heap.size ≤ b) ad2 y.l from hg2.to (fun b hb _ => ⟨(show wr.heap.size ≤ b by have hb1 : (wr.alloc (.cells #[.int .i64 x.req, .int .i64 x.res.err, .int .i64 x.res.ver] 127)).heap.size ≤ b := hb; simp at hb1; omega), rfl⟩))
   have HB2 := Lib.hid hbw
   obtain ⟨N, hN⟩ : ∃ N, y.l.len = N := ⟨_, rfl⟩
   rw [hN]
   have HN := Lib.hid hN
   have HOW := Lib.hid (owns_below HR.out.own (hbw.alloc hbw.size (.cells #[.int .i64 y.k, .int .i64 y.n, .string y.s, .slice ad2 N cap2] 35)))
   have HGE := Lib.hid (show w.heap.size + 1 ≤ (w2.alloc (.cells #[.int .i64 y.k, .int .i64 y.n, .string y.s, .slice ad2 N cap2] 35)).heap.size by have h1 := HR.out.ge; have h2 := hbw.size; simp; omega)
   clear hb2 hg2 hbw hN d0 d1 d2
   go_wp2_with (at_builtin; refine wpList_append_own_at _ rfl (.tmp 15) (.tmp 19) 33 rfl (w.heap.size + 1) 35 i0 _ 4 56 Tryz.underlying33 hi hz0 hz1 hz2 rfl (by decide) (.slice la k lc) k xs rfl HOW.out ⟨w2.heap.size, 0, none⟩ 1 1 [.int .i64 y.k, .int .i64 y.n, .string y.s, .slice ad2 N cap2] rfl rfl ?c1 ?c2 (by unfold maxLen; omega) (by omega) HGE.out ?_)
   case c1 => exact World.news_of_block (cs := #[.int .i64 y.k, .int .i64 y.n, .string y.s, .slice ad2 N cap2]) (heap_alloc_new w2 _)
   case c2 =>
    intro u hu
    simp at hu
    rcases hu with rfl | rfl | rfl | rfl <;> rfl
   intro v' w3 hown3 hgrow3 _ hloc3
   obtain ⟨la3, lc3, rfl, hE⟩ := HR.out.step HGX.out HB2.out HG2.out HN.out hown3 hgrow3 hloc3
   have HE := Lib.hid hE
   clear hown3 hgrow3 hloc3 hE
   go_wp2_with fail
   go_roundw
   case rel => exact ⟨k + 1, la3, lc3, _, by go_num, by omega, rfl, HE⟩
   case measure => simp [intOf]; omega
  ·have hltz : ¬ (k : Int) < (l.length : Int) := by omega
   obtain rfl : k = l.length := by omega
   go_wp2_with fail
   refine (blist_p la l.length lc _).mono ?_
   rintro _ w4 ⟨rfl, hb4⟩
   obtain ⟨hvc, hans⟩ := HR.out.fin (List.length_map ..) hb4
   have HANS := Lib.hid hans
   have HVC := Lib.hid (hvc.put 3 0 ⟨#[]⟩ la l.length lc)
   obtain ⟨⟨v0, v1, v2, v3⟩, f0, f1, f2, f3⟩ := hvc
   clear hb4 hans
   go_wp2_with fail
   obtain ⟨⟨t0, t1, t2, t3⟩, _⟩ := HVC.out
   exact bodyPost_ret (v := .agg #[.int .i64 3, .int .i64 0, .string ⟨#[]⟩, .slice la l.length lc]) (by simp [results, Tryz.results144, go_sem, t0, t1, t2, t3]) rfl HANS.out
theorem ieach_p (v : Value) (l : List Int) (w : World) (h : IsAt w v l) (hn : l.length ≤ 1000000) (hf : ∀ (x : Int) W, Calls Tryz.prog 141 #[.int .i64 x] W (VAns (b4num x) W)) :
  Calls Tryz.prog 146 #[v, .func (.func 141) #[] #[]] w (VAns (b4list (l.map b4num)) w) := by
 have eg : ∀ args w, (callFunc 141 args).run Tryz.prog w = .ok (.enter 141 args) w := enters_of Tryz.func141 (by kernel_rfl) rfl
 obtain ⟨i0, hi, hz0, hz1, hz2⟩ := info_parts infoVal
 obtain ⟨ad, cap, rfl, _⟩ := h.shape
 have HA := Lib.hid h
 have HF := Lib.hid hf
 have HST := Lib.hid (EachR.start w (l.map b4num) 35)
 clear h hf
 go_enter Tryz.func146, Tryz.ntmps146
 go_wp2_with fail
 go_loopw [5, 11] (fun vv iv wr => ∃ (k : Nat) (la : Option Addr) (lc : Nat) (xs : List Value), iv = .int .i64 k ∧ k ≤ l.length ∧ vv = .slice la k lc ∧ Hid (EachR w (l.map b4num) k la lc xs wr)) (fun _ iv _ => l.length - (intOf iv).toNat)
 case atStart => exact ⟨0, _, 0, [], rfl, Nat.zero_le _, rfl, HST⟩
 case round =>
  obtain ⟨k, la, lc, xs, rfl, hk, rfl, HR⟩ := hrel
  by_cases hlt : k < l.length
  ·have hltz : (k : Int) < (l.length : Int) := by omega
   obtain ⟨x, hx⟩ : ∃ x, l[k]? = some x := ⟨_, List.getElem?_eq_getElem hlt⟩
   obtain ⟨g, o, rfl, d0, hgl⟩ := (HA.out.below HR.out.bl).get hx
   have HX := Lib.hid hx
   clear hx
   have HC := Lib.hid (HF.out x _ : Calls Tryz.prog 141 #[.int .i64 x] wr (VAns (b4num x) wr))
   have HGX : Hid ((l.map b4num)[k]? = some (b4num x)) := Lib.hid (by rw [List.getElem?_map, HX.out]; rfl)
   obtain ⟨y, hy⟩ : ∃ y, b4num x = y := ⟨_, rfl⟩
   rw [hy] at HC HGX
   clear hy
   go_wp2_with fail
   refine HC.out.mono ?_
   rintro _ w2 ⟨hb2, ad2, cap2, rfl, hg2⟩
   have hbw : Below wr.heap.size wr w2 := hb2
   have HG2 := Lib.hid (show RepG w2 (fun b => wr.heap.size ≤ b) ad2 y.l from hg2)
   have HB2 := Lib.hid hbw
   obtain ⟨N, hN⟩ : ∃ N, y.l.len = N := ⟨_, rfl⟩
   rw [hN]
   have HN := Lib.hid hN
   have HOW := Lib.hid (owns_below HR.out.own (hbw.alloc hbw.size (.cells #[.int .i64 y.k, .int .i64 y.n, .string y.s, .slice ad2 N cap2] 35)))
   have HGE := Lib.hid (show w.heap.size + 1 ≤ (w2.alloc (.cells #[.int .i64 y.k, .int .i64 y.n, .string y.s, .slice ad2 N cap2] 35)).heap.size by have h1 := HR.out.ge; have h2 := hbw.size; simp; omega)
   clear hb2 hg2 hbw hN d0
   go_wp2_with (at_builtin; refine wpList_append_own_at _ rfl (.tmp 15) (.tmp 19) 33 rfl (w.heap.size + 1) 35 i0 _ 4 56 Tryz.underlying33 hi hz0 hz1 hz2 rfl (by decide) (.slice la k lc) k xs rfl HOW.out ⟨w2.heap.size, 0, none⟩ 1 1 [.int .i64 y.k, .int .i64 y.n, .string y.s, .slice ad2 N cap2] rfl rfl ?c1 ?c2 (by unfold maxLen; omega) (by omega) HGE.out ?_)
   case c1 => exact World.news_of_block (cs := #[.int .i64 y.k, .int .i64 y.n, .string y.s, .slice ad2 N cap2]) (heap_alloc_new w2 _)
   case c2 =>
    intro u hu
    simp at hu
    rcases hu with rfl | rfl | rfl | rfl <;> rfl
   intro v' w3 hown3 hgrow3 _ hloc3
   obtain ⟨la3, lc3, rfl, hE⟩ := HR.out.step HGX.out HB2.out HG2.out HN.out hown3 hgrow3 hloc3
   have HE := Lib.hid hE
   clear hown3 hgrow3 hloc3 hE
   go_wp2_with fail
   go_roundw
   case rel => exact ⟨k + 1, la3, lc3, _, by go_num, by omega, rfl, HE⟩
   case measure => simp [intOf]; omega
  ·have hltz : ¬ (k : Int) < (l.length : Int) := by omega
   obtain rfl : k = l.length := by omega
   go_wp2_with fail
   refine (blist_p la l.length lc _).mono ?_
   rintro _ w4 ⟨rfl, hb4⟩
   obtain ⟨hvc, hans⟩ := HR.out.fin (List.length_map ..) hb4
   have HANS := Lib.hid hans
   have HVC := Lib.hid (hvc.put 3 0 ⟨#[]⟩ la l.length lc)
   obtain ⟨⟨v0, v1, v2, v3⟩, f0, f1, f2, f3⟩ := hvc
   clear hb4 hans
   go_wp2_with fail
   obtain ⟨⟨t0, t1, t2, t3⟩, _⟩ := HVC.out
   exact bodyPost_ret (v := .agg #[.int .i64 3, .int .i64 0, .string ⟨#[]⟩, .slice la l.length lc]) (by simp [results, Tryz.results146, go_sem, t0, t1, t2, t3]) rfl HANS.out
end Go.Proofs.YtoealjcjpjapkaaGreatDoor
