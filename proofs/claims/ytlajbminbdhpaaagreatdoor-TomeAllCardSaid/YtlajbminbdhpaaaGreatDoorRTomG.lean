/-
 Contracts of the program, and what they rest on.
-/
import Derived.Test.YtlajbminbdhpaaaGreatDoorM11
import Derived.Test.YtlajbminbdhpaaaGreatDoorRHex2
import Derived.Test.YtlajbminbdhpaaaGreatDoorRMark
set_option maxRecDepth 100000
set_option maxHeartbeats 16000000
namespace Go.Proofs.YtlajbminbdhpaaaGreatDoor
open Go.RowKit Go.Proofs.Flo Go.Proofs.Cpl Go.Sort
theorem rtag_p (s : ByteArray) (hs : s.size ≤ 1000000000) (w : World) :
  Calls Tryz.prog 41 #[.string s] w fun e w' => e = .returned (.string (tagS s)) ∧ Below w.heap.size w w' := by
 have H1 := Lib.hid (rmark_str s (gon (0, 1) s.data.toList) rfl (by unfold maxLen; omega) w)
 have hok := ok_gon ok_i s.data.toList
 unfold tagS
 generalize gon (0, 1) s.data.toList = G at *
 have H2 := Lib.hid (fun W => rtext G hok W)
 clear hok
 go_enter Tryz.func41, Tryz.ntmps41
 go_wp2_with fail
 refine H1.out.mono ?_
 rintro _ w1 ⟨rfl, hb1⟩
 have HB1 := Lib.hid hb1
 clear hb1
 go_wp2_with fail
 refine (H2.out _).mono ?_
 rintro _ w2 ⟨rfl, hb2⟩
 have HB2 := Lib.hid (HB1.out.trans (hb2.mono HB1.out.size))
 clear hb2
 go_wp2_with fail
 go_ret
 exact ⟨rfl, HB2.out⟩
theorem rnow_p (key : ByteArray) (v : Value) (l : List Ve) (w : World) (h : VsAt w v l) (hn : l.length ≤ 1000000) :
  Calls Tryz.prog 8 #[.agg #[.string key, v]] w fun e w' => e = .returned (vtup (nowE l).1 (nowE l).2) ∧ Below w.heap.size w w' := by
 obtain ⟨ad, cap, rfl, _⟩ := h.shape
 have HB := Lib.hid (w2_below w key ad l.length cap 24 26)
 have h1 := w2_ec w key ad l.length cap 24 26
 have h2 := w2_vc w key ad l.length cap 24 26
 have hV := h.below HB.out
 have hs := w2_size w key ad l.length cap 24 26
 unfold w2 at HB h1 h2 hV hs
 unfold vtup
 cases hl : l.getLast? with
 | none =>
  obtain rfl : l = [] := List.getLast?_eq_none_iff.1 hl
  have e1 : nowE [] = (Ve.zero, false) := rfl
  rw [e1]
  have e2 : ([] : List Ve).length = 0 := rfl
  rw [e2] at *
  dsimp only [Ve.zero] at h2 ⊢
  clear hV hl e1 e2 h
  go_enter Tryz.func8, Tryz.ntmps8
  go_wp2_with fail
  obtain ⟨⟨t0, t1, t2⟩, _⟩ := h2
  exact bodyPost_ret (v := .tuple #[.agg #[.int .i64 0, .bool false, .string ⟨#[]⟩], .bool false]) (by simp [results, Tryz.results8, go_sem]) rfl ⟨rfl, HB.out⟩
 | some x =>
  have e1 : nowE l = (x, !x.gone) := by unfold nowE; rw [hl]
  rw [e1]
  obtain ⟨hpos, hx⟩ := last_get hl
  obtain ⟨k, hk⟩ : ∃ k, l.length = k + 1 := ⟨l.length - 1, by omega⟩
  rw [show l.length - 1 = k by omega] at hx
  rw [hk] at hV HB h1 h2 hs hn ⊢
  obtain ⟨g, o, rfl, c0, c1, c2, hg⟩ := hV.get hx
  rw [hs] at hg
  have HE := Lib.hid h1
  have H2 := Lib.hid h2
  clear hl e1 h hV hx hpos hk
  go_enter Tryz.func8, Tryz.ntmps8
  go_wp2_with fail
  go_region
  all_goals
   go_wp2_with fail
   exact bodyPost_ret (v := .tuple #[.agg #[.int .i64 x.ver, .bool x.gone, .string x.body], .bool (!x.gone)]) (by simp [results, Tryz.results8, go_sem]) rfl ⟨rfl, ((((Below.refl _ w).alloc (Nat.le_refl _) _).alloc (by simp) _).alloc (by simp; omega) _).drew⟩
theorem rholds_p (key : ByteArray) (v : Value) (l : List Ve) (cond : Int) (tag : ByteArray) (w : World) (h : VsAt w v l) (hn : l.length ≤ 1000000) (hbd : ∀ x ∈ l, x.body.size ≤ 1000000) (ht : TzAt w) :
  Calls Tryz.prog 19 #[.agg #[.string key, v], .int .i64 cond, .string tag] w fun e w' => e = .returned (.bool (holdsE l cond tag)) ∧ Below w.heap.size w w' := by
 obtain ⟨ad, cap, rfl, _⟩ := h.shape
 have HB : Hid (Below w.heap.size w (w.alloc (.cells #[.string key, .slice ad l.length cap] 24))) := Lib.hid ((Below.refl _ w).alloc (Nat.le_refl _) _)
 have HN := Lib.hid (rnow_p key _ l _ (h.below HB.out) hn)
 have HT := Lib.hid ht
 unfold vtup at HN
 unfold holdsE
 have hmem := nowE_mem (l := l)
 clear h ht
 obtain ⟨x, b, hx⟩ : ∃ x b, nowE l = (x, b) := ⟨_, _, rfl⟩
 rw [hx] at HN hmem ⊢
 dsimp only at HN hmem ⊢
 clear hx
 by_cases c0 : cond = 0
 ·subst c0
  rw [if_pos rfl]
  go_enter Tryz.func19, Tryz.ntmps19
  go_wp2_with fail
  refine HN.out.mono ?_
  rintro _ w1 ⟨rfl, hb1⟩
  have HB1 := Lib.hid (HB.out.trans (hb1.mono HB.out.size))
  clear hb1
  go_wp2_with fail
  go_ret
  exact ⟨rfl, HB1.out.alloc HB1.out.size _⟩
 by_cases c1 : cond = 1
 ·subst c1
  rw [if_neg (by decide), if_pos rfl]
  cases b with
  | true =>
   go_enter Tryz.func19, Tryz.ntmps19
   go_wp2_with fail
   refine HN.out.mono ?_
   rintro _ w1 ⟨rfl, hb1⟩
   have HB1 := Lib.hid (HB.out.trans (hb1.mono HB.out.size))
   clear hb1
   go_wp2_with fail
   go_ret
   exact ⟨rfl, HB1.out.alloc HB1.out.size _⟩
  | false =>
   go_enter Tryz.func19, Tryz.ntmps19
   go_wp2_with fail
   refine HN.out.mono ?_
   rintro _ w1 ⟨rfl, hb1⟩
   have HB1 := Lib.hid (HB.out.trans (hb1.mono HB.out.size))
   clear hb1
   go_wp2_with fail
   go_ret
   exact ⟨rfl, HB1.out.alloc HB1.out.size _⟩
 by_cases c2 : cond = 2
 ·subst c2
  rw [if_neg (by decide), if_neg (by decide), if_pos rfl]
  cases b with
  | false =>
   rw [Bool.false_and]
   go_enter Tryz.func19, Tryz.ntmps19
   go_wp2_with fail
   refine HN.out.mono ?_
   rintro _ w1 ⟨rfl, hb1⟩
   have HB1 := Lib.hid (HB.out.trans (hb1.mono HB.out.size))
   clear hb1
   go_wp2_with fail
   go_ret
   exact ⟨rfl, HB1.out.alloc HB1.out.size _⟩
  | true =>
   rw [Bool.true_and]
   have hxb := hbd x (hmem rfl)
   have HTG := Lib.hid (fun W (h : TzAt W) => rtag_p x.body (by omega) W)
   generalize tagS x.body = T at *
   go_enter Tryz.func19, Tryz.ntmps19
   go_wp2_with fail
   refine HN.out.mono ?_
   rintro _ w1 ⟨rfl, hb1⟩
   have HB1 := Lib.hid (HB.out.trans (hb1.mono HB.out.size))
   clear hb1
   go_wp2_with fail
   refine (HTG.out _ (HT.out.below (HB1.out.alloc HB1.out.size _))).mono ?_
   rintro _ w2 ⟨rfl, hb2⟩
   have HB2 := Lib.hid ((HB1.out.alloc HB1.out.size _).trans (hb2.mono (HB1.out.alloc HB1.out.size _).size))
   clear hb2
   go_wp2_with fail
   go_ret
   exact ⟨rfl, HB2.out⟩
 have n0 : (cond == 0) = false := by rw [beq_eq_false_iff_ne]; exact c0
 have n1 : (cond == 1) = false := by rw [beq_eq_false_iff_ne]; exact c1
 have n2 : (cond == 2) = false := by rw [beq_eq_false_iff_ne]; exact c2
 rw [if_neg c0, if_neg c1, if_neg c2]
 clear c0 c1 c2
 go_enter Tryz.func19, Tryz.ntmps19
 go_wp2_with fail
 refine HN.out.mono ?_
 rintro _ w1 ⟨rfl, hb1⟩
 have HB1 := Lib.hid (HB.out.trans (hb1.mono HB.out.size))
 clear hb1
 go_wp2_with fail
 go_ret
 exact ⟨rfl, HB1.out.alloc HB1.out.size _⟩
end Go.Proofs.YtlajbminbdhpaaaGreatDoor
