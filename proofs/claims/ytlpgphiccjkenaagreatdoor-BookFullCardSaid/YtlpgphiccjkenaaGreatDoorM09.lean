/-
 Contracts of the program, and what they rest on.
-/
import Derived.Test.YtlpgphiccjkenaaGreatDoorTk
import Derived.Test.YtlpgphiccjkenaaGreatDoorM03
import Derived.Test.YtlpgphiccjkenaaGreatDoorM08
import Derived.Test.YtlpgphiccjkenaaGreatDoorM05
set_option maxRecDepth 100000
set_option maxHeartbeats 16000000
namespace Go.Proofs.YtlpgphiccjkenaaGreatDoor
open Go.RowKit
theorem last_get {l : List Ve} {x : Ve} (h : l.getLast? = some x) : 0 < l.length ∧ l[l.length - 1]? = some x := by
 rw [List.getLast?_eq_getElem?] at h
 exact ⟨by have := (List.getElem?_eq_some_iff.1 h).1; omega, h⟩
theorem putV_ve {w : World} {b : Nat} {x : Ve} (h : VC3 w b x) (v : Ve) : VC3 (((w.setCell ⟨b, 0, none⟩ (.int .i64 v.ver)).setCell ⟨b, 1, none⟩ (.bool v.gone)).setCell ⟨b, 2, none⟩ (.string v.body)) b v := by
 obtain ⟨⟨h0, h1, h2⟩, f0, f1, f2⟩ := h
 refine ⟨⟨?_, ?_, ?_⟩, ?_, ?_, ?_⟩ <;> go_simp
def vtup (v : Ve) (b : Bool) : Value := .tuple #[.agg #[.int .i64 v.ver, .bool v.gone, .string v.body], .bool b]
def w2 (w : World) (key : ByteArray) (ad : Option Addr) (n c : Nat) (t t' : TypeId) : World := (w.alloc (.cells #[.string key, .slice ad n c] t)).alloc (.cells #[.int .i64 0, .bool false, .string ⟨#[]⟩] t')
theorem w2_below (w : World) (key : ByteArray) (ad : Option Addr) (n c : Nat) (t t' : TypeId) : Below w.heap.size w (w2 w key ad n c t t') := ((Below.refl _ w).alloc (Nat.le_refl _) _).alloc (by simp) _
theorem w2_size (w : World) (key : ByteArray) (ad : Option Addr) (n c : Nat) (t t' : TypeId) : (w2 w key ad n c t t').heap.size = w.heap.size + 2 := by unfold w2; simp
theorem w2_ec (w : World) (key : ByteArray) (ad : Option Addr) (n c : Nat) (t t' : TypeId) : EC (w2 w key ad n c t t') w.heap.size key (.slice ad n c) := (EC.new w key ad n c t).alloc _
theorem w2_vc (w : World) (key : ByteArray) (ad : Option Addr) (n c : Nat) (t t' : TypeId) : VC3 (w2 w key ad n c t t') (w.heap.size + 1) Ve.zero := by
 have := VC3.new (w.alloc (.cells #[.string key, .slice ad n c] t)) Ve.zero t'
 rw [show (w.alloc (.cells #[.string key, .slice ad n c] t)).heap.size = w.heap.size + 1 by simp] at this
 exact this
theorem VsAt.get {w : World} {ad : Option Addr} {n c : Nat} {l : List Ve} (h : VsAt w (.slice ad n c) l) {j : Nat} {x : Ve} (hx : l[j]? = some x) :
  ∃ g o, ad = some ⟨g, o, none⟩ ∧ w.cell? ⟨g, o + j * 3, none⟩ = some (.int .i64 x.ver) ∧ w.cell? ⟨g, o + j * 3 + 1, none⟩ = some (.bool x.gone) ∧ w.cell? ⟨g, o + j * 3 + 2, none⟩ = some (.string x.body) ∧ g < w.heap.size := by
 rcases h with ⟨_, h0⟩ | ⟨g, o, cap', e, _, _, h3, h4⟩
 ·rw [h0] at hx
  simp at hx
 ·simp only [Value.slice.injEq] at e
  obtain ⟨a, b, c⟩ := h4 j x hx
  exact ⟨g, o, e.1, a, b, c, h3⟩
theorem now_p (key : ByteArray) (v : Value) (l : List Ve) (w : World) (h : VsAt w v l) (hn : l.length ≤ 1000000) :
  Calls Tryz.prog 91 #[.agg #[.string key, v]] w fun e w' => e = .returned (vtup (nowE l).1 (nowE l).2) ∧ Below w.heap.size w w' := by
 obtain ⟨ad, cap, rfl, _⟩ := h.shape
 have HB := Lib.hid (w2_below w key ad l.length cap 45 55)
 have h1 := w2_ec w key ad l.length cap 45 55
 have h2 := w2_vc w key ad l.length cap 45 55
 have hV := h.below HB.out
 have hs := w2_size w key ad l.length cap 45 55
 unfold w2 at HB h1 h2 hV hs
 unfold vtup
 cases hl : l.getLast? with
 | none =>
  obtain rfl : l = [] := List.getLast?_eq_none_iff.1 hl
  have e1 : nowE [] = (Ve.zero, false) := rfl
  rw [e1]
  have e2 : ([] : List Ve).length = 0 := rfl
  rw [e2] at *
  dsimp only [Ve.zero] at h2 ⊢
  clear hV hl e1 e2 h
  go_enter Tryz.func91, Tryz.ntmps91
  go_wp2_with fail
  obtain ⟨⟨t0, t1, t2⟩, _⟩ := h2
  exact bodyPost_ret (v := .tuple #[.agg #[.int .i64 0, .bool false, .string ⟨#[]⟩], .bool false]) (by simp [results, Tryz.results91, go_sem]) rfl ⟨rfl, HB.out⟩
 | some x =>
  have e1 : nowE l = (x, !x.gone) := by unfold nowE; rw [hl]
  rw [e1]
  obtain ⟨hpos, hx⟩ := last_get hl
  obtain ⟨k, hk⟩ : ∃ k, l.length = k + 1 := ⟨l.length - 1, by omega⟩
  rw [show l.length - 1 = k by omega] at hx
  rw [hk] at hV HB h1 h2 hs hn ⊢
  obtain ⟨g, o, rfl, c0, c1, c2, hg⟩ := hV.get hx
  rw [hs] at hg
  have HE := Lib.hid h1
  have H2 := Lib.hid h2
  clear hl e1 h hV hx hpos hk
  go_enter Tryz.func91, Tryz.ntmps91
  go_wp2_with fail
  go_region
  all_goals
   go_wp2_with fail
   exact bodyPost_ret (v := .tuple #[.agg #[.int .i64 x.ver, .bool x.gone, .string x.body], .bool (!x.gone)]) (by simp [results, Tryz.results91, go_sem]) rfl ⟨rfl, ((((Below.refl _ w).alloc (Nat.le_refl _) _).alloc (by simp) _).alloc (by simp; omega) _).drew⟩
theorem at_p (key : ByteArray) (v : Value) (l : List Ve) (n : Int) (w : World) (h : VsAt w v l) (hn : l.length ≤ 1000000) :
  Calls Tryz.prog 90 #[.agg #[.string key, v], .int .i64 n] w fun e w' => e = .returned (vtup (atE l n).1 (atE l n).2) ∧ Below w.heap.size w w' := by
 obtain ⟨ad, cap, rfl, _⟩ := h.shape
 have HB := Lib.hid (w2_below w key ad l.length cap 45 55)
 have h1 := w2_ec w key ad l.length cap 45 55
 have h2 := w2_vc w key ad l.length cap 45 55
 have hV := h.below HB.out
 have hs := w2_size w key ad l.length cap 45 55
 unfold w2 at HB h1 h2 hV hs
 have HP := Lib.hid (tplace_p key _ l n _ hV hn)
 unfold vtup
 clear h
 cases hp : placeE l n with
 | none =>
  have e1 : atE l n = (Ve.zero, false) := by unfold atE; rw [hp]
  have e2 : placeI l n = -1 := by unfold placeI; rw [hp]
  rw [e1]
  rw [e2] at HP
  dsimp only [Ve.zero] at h2 ⊢
  clear e1 e2 hp
  go_enter Tryz.func90, Tryz.ntmps90
  go_wp2_with fail
  refine HP.out.mono ?_
  rintro _ w1 ⟨rfl, hb1⟩
  have hV1 := hV.below hb1
  have k1 := h1.below hb1
  have k2 := h2.below hb1
  have HB1 := Lib.hid (HB.out.trans (hb1.mono HB.out.size))
  have hs1 : w.heap.size + 2 ≤ w1.heap.size := by have := hb1.size; omega
  have H2 := Lib.hid k2
  obtain ⟨⟨c0, c1⟩, f0, f1⟩ := k1
  obtain ⟨⟨d0, d1, d2⟩, g0, g1, g2⟩ := k2
  clear hb1 hV h1 h2 hs HP
  dsimp only [Ve.zero] at d0 d1 d2
  clear hV1
  go_wp2_with fail
  have hb2 := putV_ve H2.out Ve.zero
  dsimp only [Ve.zero] at hb2
  have hB := ((HB1.out.setCell (p := ⟨w.heap.size + 1, 0, none⟩) (by simp) (.int .i64 0)).setCell (p := ⟨w.heap.size + 1, 1, none⟩) (by simp) (.bool false)).setCell (p := ⟨w.heap.size + 1, 2, none⟩) (by simp) (.string ⟨#[]⟩)
  obtain ⟨⟨t0, t1, t2⟩, _⟩ := hb2
  dsimp only at t0 t1 t2
  exact bodyPost_ret (v := .tuple #[.agg #[.int .i64 0, .bool false, .string ⟨#[]⟩], .bool false]) (by simp [results, Tryz.results90, go_sem, t0, t1, t2]) rfl ⟨rfl, hB⟩
 | some k =>
  have hk := placeE_lt hp
  obtain ⟨x, hx⟩ : ∃ x, l[k]? = some x := ⟨_, List.getElem?_eq_getElem hk⟩
  have e1 : atE l n = (x, true) := by unfold atE; rw [hp]; simp [List.getD, hx]
  have e2 : placeI l n = (k : Int) := by unfold placeI; rw [hp]
  rw [e1]
  rw [e2] at HP
  have HX := Lib.hid hx
  have hkz : (k : Int) < (l.length : Int) := by omega
  clear e1 e2 hp hx
  go_enter Tryz.func90, Tryz.ntmps90
  go_wp2_with fail
  refine HP.out.mono ?_
  rintro _ w1 ⟨rfl, hb1⟩
  have hV1 := hV.below hb1
  have k1 := h1.below hb1
  have k2 := h2.below hb1
  have HB1 := Lib.hid (HB.out.trans (hb1.mono HB.out.size))
  have hs1 : w.heap.size + 2 ≤ w1.heap.size := by have := hb1.size; omega
  have H2 := Lib.hid k2
  obtain ⟨⟨c0, c1⟩, f0, f1⟩ := k1
  obtain ⟨⟨d0, d1, d2⟩, g0, g1, g2⟩ := k2
  clear hb1 hV h1 h2 hs HP
  obtain ⟨g, o, rfl, x0, x1, x2, hg⟩ := hV1.get HX.out
  clear hV1
  go_wp2_with fail
  have hb2 := putV_ve H2.out x
  have hB := ((HB1.out.setCell (p := ⟨w.heap.size + 1, 0, none⟩) (by simp) (.int .i64 x.ver)).setCell (p := ⟨w.heap.size + 1, 1, none⟩) (by simp) (.bool x.gone)).setCell (p := ⟨w.heap.size + 1, 2, none⟩) (by simp) (.string x.body)
  obtain ⟨⟨t0, t1, t2⟩, _⟩ := hb2
  exact bodyPost_ret (v := .tuple #[.agg #[.int .i64 x.ver, .bool x.gone, .string x.body], .bool true]) (by simp [results, Tryz.results90, go_sem, t0, t1, t2]) rfl ⟨rfl, hB⟩
end Go.Proofs.YtlpgphiccjkenaaGreatDoor
namespace Go.Proofs.YtlpgphiccjkenaaGreatDoor
open Go.RowKit Go.Proofs.Flo Go.Proofs.Cpl Go.Sort
def dagg (d : De) : Value := .agg #[.int .i64 d.kind, .string d.key, .string d.body, .int .i64 d.ver, .int .i64 d.cond, .string d.tag, .int .i64 d.req, .int .i64 d.low]
theorem ba_size0 {t : ByteArray} (h : t.size = 0) : t = ⟨#[]⟩ := ByteArray.ext (Array.eq_empty_of_size_eq_zero h)
theorem ba_isEmpty {t : ByteArray} (h : ¬ t.size = 0) : t.toList.isEmpty = false := by
 rw [ByteArray.toList_eq]
 cases h2 : t.data.toList with
 | nil => exact absurd (show t.data.toList.length = 0 by rw [h2]; rfl) h
 | cons => rfl
theorem cond_p (c : Int) (t : ByteArray) (b : Bool) (hb : b = true ↔ condD c t) (w : World) (ht : TzAt w) (he : ErrAt w) :
  Calls Tryz.prog 115 #[.int .i64 c, .string t] w fun e w' => e = .returned (.bool b) ∧ Below w.heap.size w w' := by
 unfold condD at hb
 by_cases h0 : c = 0 ∨ c = 1
 ·by_cases hs : t.size = 0
  ·obtain rfl : b = true := hb.2 (.inl ⟨h0, hs⟩)
   obtain rfl := ba_size0 hs
   clear hb hs
   rcases h0 with rfl | rfl
   ·go_enter Tryz.func115, Tryz.ntmps115
    go_wp2_with fail
    go_ret
    exact ⟨rfl, Below.refl _ _⟩
   ·go_enter Tryz.func115, Tryz.ntmps115
    go_wp2_with fail
    go_ret
    exact ⟨rfl, Below.refl _ _⟩
  ·obtain rfl : b = false := by
    cases b with
    | false => rfl
    | true =>
     rcases hb.1 rfl with h | h
     ·exact absurd h.2 hs
     ·omega
   have hse := ba_isEmpty hs
   clear hb hs
   rcases h0 with rfl | rfl
   ·go_enter Tryz.func115, Tryz.ntmps115
    go_wp2_with fail
    go_ret
    exact ⟨rfl, Below.refl _ _⟩
   ·go_enter Tryz.func115, Tryz.ntmps115
    go_wp2_with fail
    go_ret
    exact ⟨rfl, Below.refl _ _⟩
 ·by_cases h2 : c = 2
  ·subst h2
   by_cases hp : ∃ p, IsText t p
   ·obtain rfl : b = true := hb.2 (.inr ⟨rfl, hp⟩)
    obtain ⟨p, hp⟩ := hp
    have H := Lib.hid (gread_yes t p hp w ht he)
    clear hb hp h0 ht he
    go_enter Tryz.func115, Tryz.ntmps115
    go_wp2_with fail
    refine H.out.mono ?_
    rintro _ w1 ⟨rfl, hb1⟩
    go_wp2_with fail
    go_ret
    exact ⟨rfl, hb1⟩
   ·obtain rfl : b = false := by
     cases b with
     | false => rfl
     | true =>
      rcases hb.1 rfl with h | h
      ·exact absurd h.1 h0
      ·exact absurd h.2 hp
    have H := Lib.hid (gread_no t (fun p hq => hp ⟨p, hq⟩) w ht he)
    clear hb hp h0 ht he
    go_enter Tryz.func115, Tryz.ntmps115
    go_wp2_with fail
    refine H.out.mono ?_
    rintro _ w1 ⟨rfl, hb1⟩
    go_wp2_with fail
    go_ret
    exact ⟨rfl, hb1⟩
  ·obtain rfl : b = false := by
    cases b with
    | false => rfl
    | true =>
     rcases hb.1 rfl with h | h
     ·exact absurd h.1 h0
     ·exact absurd h.1 h2
   have n0 : (c == 0) = false := by rw [beq_eq_false_iff_ne]; exact fun e => h0 (.inl e)
   have n1 : (c == 1) = false := by rw [beq_eq_false_iff_ne]; exact fun e => h0 (.inr e)
   have n2 : (c == 2) = false := by rw [beq_eq_false_iff_ne]; exact h2
   clear hb h0 h2
   go_enter Tryz.func115, Tryz.ntmps115
   go_wp2_with fail
   go_ret
   exact ⟨rfl, Below.refl _ _⟩
theorem pureD_mk (kind : Int) (key body : ByteArray) (ver cond : Int) (tag : ByteArray) (req low : Int) : pureD ⟨kind, key, body, ver, cond, tag, req, low⟩ ↔ ((kind = 1 ∧ body.size ≤ 300 ∧ ver = 0 ∧ condD cond tag) ∨ (kind = 2 ∧ body.size = 0 ∧ ver = 0 ∧ cond = 0 ∧ tag.size = 0) ∨
  (kind = 3 ∧ body.size = 0 ∧ (1 ≤ ver ∧ ver ≤ 1099511627776) ∧ cond = 0 ∧ tag.size = 0)) := Iff.rfl
theorem dpure_p (d : De) (b : Bool) (hb : b = true ↔ pureD d) (w : World) (ht : TzAt w) (he : ErrAt w) :
  Calls Tryz.prog 58 #[dagg d] w fun e w' => e = .returned (.bool b) ∧ Below w.heap.size w w' := by
 obtain ⟨kind, key, body, ver, cond, tag, req, low⟩ := d
 rw [pureD_mk] at hb
 unfold dagg
 simp only
 by_cases k1 : kind = 1
 ·subst k1
  by_cases h1 : body.size ≤ 300
  ·have c1 : (body.size : Int) ≤ 300 := by omega
   by_cases h2 : ver = 0
   ·subst h2
    have hb2 : b = true ↔ condD cond tag := by
     rw [hb]
     constructor
     ·rintro (h | h | h)
      ·exact h.2.2.2
      ·omega
      ·omega
     ·exact fun h => .inl ⟨rfl, h1, rfl, h⟩
    have hb0 : Below w.heap.size w (w.alloc (.cells #[.int .i64 1, .string key, .string body, .int .i64 0, .int .i64 cond, .string tag, .int .i64 req, .int .i64 low] 35)) := (Below.refl _ _).alloc (Nat.le_refl _) _
    have H := Lib.hid (cond_p cond tag b hb2 _ (ht.below hb0) (he.below hb0))
    have HB := Lib.hid hb0
    clear hb hb2 ht he hb0 h1
    go_enter Tryz.func58, Tryz.ntmps58
    go_wp2_with fail
    refine H.out.mono ?_
    rintro _ w1 ⟨rfl, hb1⟩
    have HB1 := Lib.hid (HB.out.trans (hb1.mono HB.out.size))
    clear hb1
    go_wp2_with fail
    go_ret
    exact ⟨rfl, HB1.out⟩
   ·have n2 : (ver == 0) = false := by rw [beq_eq_false_iff_ne]; exact h2
    obtain rfl : b = false := by
     cases b with
     | false => rfl
     | true => exact absurd (hb.1 rfl) (fun h => by rcases h with h | h | h <;> omega)
    clear hb
    go_enter Tryz.func58, Tryz.ntmps58
    go_wp2_with fail
    go_ret
    exact ⟨rfl, (Below.refl _ _).alloc (Nat.le_refl _) _⟩
  ·have c1 : ¬ (body.size : Int) ≤ 300 := by omega
   obtain rfl : b = false := by
    cases b with
    | false => rfl
    | true => exact absurd (hb.1 rfl) (fun h => by rcases h with h | h | h <;> omega)
   clear hb
   go_enter Tryz.func58, Tryz.ntmps58
   go_wp2_with fail
   go_ret
   exact ⟨rfl, (Below.refl _ _).alloc (Nat.le_refl _) _⟩
 by_cases k2 : kind = 2
 ·subst k2
  by_cases h1 : body.size = 0
  ·obtain rfl := ba_size0 h1
   by_cases h2 : ver = 0
   ·subst h2
    by_cases h3 : cond = 0
    ·subst h3
     by_cases h4 : tag.size = 0
     ·obtain rfl := ba_size0 h4
      obtain rfl : b = true := hb.2 (.inr (.inl ⟨rfl, h1, rfl, rfl, h4⟩))
      clear hb
      go_enter Tryz.func58, Tryz.ntmps58
      go_wp2_with fail
      go_ret
      exact ⟨rfl, (Below.refl _ _).alloc (Nat.le_refl _) _⟩
     ·have n4 := ba_isEmpty h4
      obtain rfl : b = false := by
       cases b with
       | false => rfl
       | true => exact absurd (hb.1 rfl) (fun h => by rcases h with h | h | h <;> omega)
      clear hb
      go_enter Tryz.func58, Tryz.ntmps58
      go_wp2_with fail
      go_ret
      exact ⟨rfl, (Below.refl _ _).alloc (Nat.le_refl _) _⟩
    ·have n3 : (cond == 0) = false := by rw [beq_eq_false_iff_ne]; exact h3
     obtain rfl : b = false := by
      cases b with
      | false => rfl
      | true => exact absurd (hb.1 rfl) (fun h => by rcases h with h | h | h <;> omega)
     clear hb
     go_enter Tryz.func58, Tryz.ntmps58
     go_wp2_with fail
     go_ret
     exact ⟨rfl, (Below.refl _ _).alloc (Nat.le_refl _) _⟩
   ·have n2 : (ver == 0) = false := by rw [beq_eq_false_iff_ne]; exact h2
    obtain rfl : b = false := by
     cases b with
     | false => rfl
     | true => exact absurd (hb.1 rfl) (fun h => by rcases h with h | h | h <;> omega)
    clear hb
    go_enter Tryz.func58, Tryz.ntmps58
    go_wp2_with fail
    go_ret
    exact ⟨rfl, (Below.refl _ _).alloc (Nat.le_refl _) _⟩
  ·have n1 := ba_isEmpty h1
   obtain rfl : b = false := by
    cases b with
    | false => rfl
    | true => exact absurd (hb.1 rfl) (fun h => by rcases h with h | h | h <;> omega)
   clear hb
   go_enter Tryz.func58, Tryz.ntmps58
   go_wp2_with fail
   go_ret
   exact ⟨rfl, (Below.refl _ _).alloc (Nat.le_refl _) _⟩
 by_cases k3 : kind = 3
 ·subst k3
  by_cases h1 : body.size = 0
  ·obtain rfl := ba_size0 h1
   by_cases h2 : 1 ≤ ver
   ·by_cases h5 : ver ≤ 1099511627776
    ·by_cases h3 : cond = 0
     ·subst h3
      by_cases h4 : tag.size = 0
      ·obtain rfl := ba_size0 h4
       obtain rfl : b = true := hb.2 (.inr (.inr ⟨rfl, h1, ⟨h2, h5⟩, rfl, h4⟩))
       clear hb
       go_enter Tryz.func58, Tryz.ntmps58
       go_wp2_with fail
       go_ret
       exact ⟨rfl, (Below.refl _ _).alloc (Nat.le_refl _) _⟩
      ·have n4 := ba_isEmpty h4
       obtain rfl : b = false := by
        cases b with
        | false => rfl
        | true => exact absurd (hb.1 rfl) (fun h => by rcases h with h | h | h <;> omega)
       clear hb
       go_enter Tryz.func58, Tryz.ntmps58
       go_wp2_with fail
       go_ret
       exact ⟨rfl, (Below.refl _ _).alloc (Nat.le_refl _) _⟩
     ·have n3 : (cond == 0) = false := by rw [beq_eq_false_iff_ne]; exact h3
      obtain rfl : b = false := by
       cases b with
       | false => rfl
       | true => exact absurd (hb.1 rfl) (fun h => by rcases h with h | h | h <;> omega)
      clear hb
      go_enter Tryz.func58, Tryz.ntmps58
      go_wp2_with fail
      go_ret
      exact ⟨rfl, (Below.refl _ _).alloc (Nat.le_refl _) _⟩
    ·obtain rfl : b = false := by
      cases b with
      | false => rfl
      | true => exact absurd (hb.1 rfl) (fun h => by rcases h with h | h | h <;> omega)
     clear hb
     go_enter Tryz.func58, Tryz.ntmps58
     go_wp2_with fail
     go_ret
     exact ⟨rfl, (Below.refl _ _).alloc (Nat.le_refl _) _⟩
   ·obtain rfl : b = false := by
     cases b with
     | false => rfl
     | true => exact absurd (hb.1 rfl) (fun h => by rcases h with h | h | h <;> omega)
    clear hb
    go_enter Tryz.func58, Tryz.ntmps58
    go_wp2_with fail
    go_ret
    exact ⟨rfl, (Below.refl _ _).alloc (Nat.le_refl _) _⟩
  ·have n1 := ba_isEmpty h1
   obtain rfl : b = false := by
    cases b with
    | false => rfl
    | true => exact absurd (hb.1 rfl) (fun h => by rcases h with h | h | h <;> omega)
   clear hb
   go_enter Tryz.func58, Tryz.ntmps58
   go_wp2_with fail
   go_ret
   exact ⟨rfl, (Below.refl _ _).alloc (Nat.le_refl _) _⟩
 have e1 : (kind == 1) = false := by rw [beq_eq_false_iff_ne]; exact k1
 have e2 : (kind == 2) = false := by rw [beq_eq_false_iff_ne]; exact k2
 have e3 : (kind == 3) = false := by rw [beq_eq_false_iff_ne]; exact k3
 obtain rfl : b = false := by
  cases b with
  | false => rfl
  | true => exact absurd (hb.1 rfl) (fun h => by rcases h with h | h | h <;> omega)
 clear hb
 go_enter Tryz.func58, Tryz.ntmps58
 go_wp2_with fail
 go_ret
 exact ⟨rfl, (Below.refl _ _).alloc (Nat.le_refl _) _⟩
def DeC (w : World) (b : Nat) (d : De) : Prop :=
 w.cell? ⟨b, 0, none⟩ = some (.int .i64 d.kind) ∧ w.cell? ⟨b, 1, none⟩ = some (.string d.key) ∧ w.cell? ⟨b, 2, none⟩ = some (.string d.body) ∧ w.cell? ⟨b, 3, none⟩ = some (.int .i64 d.ver) ∧ w.cell? ⟨b, 4, none⟩ = some (.int .i64 d.cond) ∧
  w.cell? ⟨b, 5, none⟩ = some (.string d.tag) ∧ w.cell? ⟨b, 6, none⟩ = some (.int .i64 d.req) ∧ w.cell? ⟨b, 7, none⟩ = some (.int .i64 d.low)
theorem DeC.below {w w' : World} {b : Nat} {d : De} (h : DeC w b d) (hb : Below w.heap.size w w') : DeC w' b d := by
 have hl : b < w.heap.size := World.block_lt_of_cell? w _ h.1
 obtain ⟨h0, h1, h2, h3, h4, h5, h6, h7⟩ := h
 exact ⟨by rw [hb.cell hl]; exact h0, by rw [hb.cell hl]; exact h1, by rw [hb.cell hl]; exact h2, by rw [hb.cell hl]; exact h3, by rw [hb.cell hl]; exact h4, by rw [hb.cell hl]; exact h5, by rw [hb.cell hl]; exact h6, by rw [hb.cell hl]; exact h7⟩
theorem DeC.new (w : World) (d : De) (t : TypeId) : DeC (w.alloc (.cells #[.int .i64 d.kind, .string d.key, .string d.body, .int .i64 d.ver, .int .i64 d.cond, .string d.tag, .int .i64 d.req, .int .i64 d.low] t)) w.heap.size d := by
 refine ⟨?_, ?_, ?_, ?_, ?_, ?_, ?_, ?_⟩ <;> go_simp
theorem dmay_p (d : De) (b : Bool) (hb : b = true ↔ mayD d) (hwf : d.wf) (w : World) (ht : TzAt w) (he : ErrAt w) :
  Calls Tryz.prog 25 #[dagg d] w fun e w' => e = .returned (.bool b) ∧ Below w.heap.size w w' := by
 have hb0 : Below w.heap.size w (w.alloc (.cells #[.int .i64 d.kind, .string d.key, .string d.body, .int .i64 d.ver, .int .i64 d.cond, .string d.tag, .int .i64 d.req, .int .i64 d.low] 35)) := (Below.refl _ _).alloc (Nat.le_refl _) _
 have HC := Lib.hid (DeC.new w d 35)
 have HB := Lib.hid hb0
 have HTE := Lib.hid (And.intro ht he)
 have K := Lib.hid (fun w1 => key_p d.key w1)
 have Ho := Lib.hid (fun w1 => home_p d.req hwf.2.2.2.1.1 hwf.2.2.2.1.2 w1)
 have HP := Lib.hid (fun b hb w1 h1 h2 => dpure_p d b hb w1 h1 h2)
 unfold dagg at HP
 unfold mayD at hb
 unfold dagg
 clear ht he hb0 hwf
 obtain ⟨kb, hkb⟩ : ∃ kb, keyB d.key = kb := ⟨_, rfl⟩
 rw [hkb] at hb K
 obtain ⟨hm, hhm⟩ : ∃ hm, homeP d.req = hm := ⟨_, rfl⟩
 rw [hhm] at hb Ho
 clear hkb hhm
 go_enter Tryz.func25, Tryz.ntmps25
 go_wp2_with fail
 obtain ⟨q0, q1, q2, q3, q4, q5, q6, q7⟩ := HC.out
 cases kb with
 | false =>
  obtain rfl : b = false := by
   cases b with
   | false => rfl
   | true => exact absurd (hb.1 rfl) (fun h => by cases h.1)
  clear hb
  go_wp2_with fail
  refine (K.out _).mono ?_
  rintro _ w1 ⟨rfl, hb1⟩
  go_wp2_with fail
  go_ret
  exact ⟨rfl, HB.out.trans (hb1.mono HB.out.size)⟩
 | true =>
  go_wp2_with fail
  refine (K.out _).mono ?_
  rintro _ w1 ⟨rfl, hb1⟩
  have HB1 := Lib.hid (HB.out.trans (hb1.mono HB.out.size))
  have HC1 := Lib.hid (HC.out.below hb1)
  clear hb1 q0 q1 q2 q3 q4 q5 q6 q7
  obtain ⟨q0, q1, q2, q3, q4, q5, q6, q7⟩ := HC1.out
  by_cases h2 : hm = 0
  ·subst h2
   obtain rfl : b = false := by
    cases b with
    | false => rfl
    | true => exact absurd (hb.1 rfl) (fun h => h.2.1 rfl)
   clear hb
   go_wp2_with fail
   refine (Ho.out _).mono ?_
   rintro _ w' ⟨rfl, rfl⟩
   go_wp2_with fail
   go_ret
   exact ⟨rfl, HB1.out⟩
  have n2 : (hm != 0) = true := by rw [bne_iff_ne]; exact h2
  by_cases h3 : 0 ≤ d.low
  case neg =>
   obtain rfl : b = false := by
    cases b with
    | false => rfl
    | true => exact absurd (hb.1 rfl) (fun h => h3 h.2.2.1)
   clear hb
   go_wp2_with fail
   refine (Ho.out _).mono ?_
   rintro _ w' ⟨rfl, rfl⟩
   go_wp2_with fail
   go_ret
   exact ⟨rfl, HB1.out⟩
  case pos =>
  by_cases h4 : d.low ≤ d.req
  case neg =>
   obtain rfl : b = false := by
    cases b with
    | false => rfl
    | true => exact absurd (hb.1 rfl) (fun h => h4 h.2.2.2.1)
   clear hb
   go_wp2_with fail
   refine (Ho.out _).mono ?_
   rintro _ w' ⟨rfl, rfl⟩
   go_wp2_with fail
   go_ret
   exact ⟨rfl, HB1.out⟩
  case pos =>
  have HPP := Lib.hid (HP.out b (by
   rw [hb]
   exact ⟨fun h => h.2.2.2.2, fun h => ⟨by first | exact rfl | exact trivial, h2, h3, h4, h⟩⟩) w1 (HTE.out.1.below HB1.out) (HTE.out.2.below HB1.out))
  clear hb
  go_wp2_with fail
  refine (Ho.out _).mono ?_
  rintro _ w' ⟨rfl, rfl⟩
  go_wp2_with fail
  refine HPP.out.mono ?_
  rintro _ w2 ⟨rfl, hb2⟩
  have HB2 := Lib.hid (HB1.out.trans (hb2.mono HB1.out.size))
  clear hb2
  go_wp2_with fail
  go_ret
  exact ⟨rfl, HB2.out⟩
theorem dnum_p (n : Int) (w : World) :
  Calls Tryz.prog 84 #[.int .i64 n] w fun e w' => e = .returned (.agg #[.int .i64 1, .int .i64 n, .string ⟨#[]⟩, .slice none 0 0]) ∧ Below w.heap.size w w' := by
 go_enter Tryz.func84, Tryz.ntmps84
 go_wp2_with fail
 exact bodyPost_ret (v := .agg #[.int .i64 1, .int .i64 n, .string ⟨#[]⟩, .slice none 0 0]) (by simp [results, Tryz.results84, go_sem]) (by first | exact rfl | exact trivial) ⟨by first | exact rfl | exact trivial, (Below.refl _ _).alloc (Nat.le_refl _) _⟩
theorem dstr_p (s : ByteArray) (w : World) :
  Calls Tryz.prog 85 #[.string s] w fun e w' => e = .returned (.agg #[.int .i64 2, .int .i64 0, .string s, .slice none 0 0]) ∧ Below w.heap.size w w' := by
 go_enter Tryz.func85, Tryz.ntmps85
 go_wp2_with fail
 exact bodyPost_ret (v := .agg #[.int .i64 2, .int .i64 0, .string s, .slice none 0 0]) (by simp [results, Tryz.results85, go_sem]) (by first | exact rfl | exact trivial) ⟨by first | exact rfl | exact trivial, (Below.refl _ _).alloc (Nat.le_refl _) _⟩
def tagS (s : ByteArray) : ByteArray := strN (textL (gon (0, 1) s.data.toList))
theorem dtag_p (s : ByteArray) (hs : s.size ≤ 1000000000) (w : World) (ht : TzAt w) :
  Calls Tryz.prog 154 #[.string s] w fun e w' => e = .returned (.string (tagS s)) ∧ Below w.heap.size w w' := by
 have v1 := conv_str s w
 have HB := Lib.hid (Lib.bytesWorld_below w 5 s)
 have H1 := Lib.hid (fun cap => mark_str s w.heap.size s.size cap (gon (0, 1) s.data.toList) rfl rfl (by unfold maxLen; omega) (Lib.bytesWorld w 5 s) (bytesAt_str w 5 s))
 have hok := ok_gon ok_i s.data.toList
 unfold tagS
 generalize gon (0, 1) s.data.toList = G at *
 have H2 := Lib.hid (gtext G hok (Lib.bytesWorld w 5 s) (ht.below HB.out))
 clear ht hok
 go_enter Tryz.func154, Tryz.ntmps154
 go_wp2_with fail
 refine (H1.out _).mono ?_
 rintro _ w' ⟨rfl, rfl⟩
 go_wp2_with fail
 refine H2.out.mono ?_
 rintro _ w2 ⟨rfl, hb2⟩
 have HB2 := Lib.hid (HB.out.trans (hb2.mono HB.out.size))
 clear hb2
 go_wp2_with fail
 go_ret
 exact ⟨rfl, HB2.out⟩
end Go.Proofs.YtlpgphiccjkenaaGreatDoor
namespace Go.Proofs.YtlpgphiccjkenaaGreatDoor
open Go.RowKit
def pureV (v : Ve) : Bool := if v.gone then decide (v.body.size = 0) else decide (v.body.size ≤ 300)
def riseV : Int → List Ve → Bool
 | _, [] => true
 | b, v :: r => decide (b < v.ver) && decide (v.ver ≤ 1099511627776) && pureV v && riseV v.ver r
def mayE (key : ByteArray) (l : List Ve) : Bool := keyB key && decide (1 ≤ l.length) && decide (l.length ≤ 12) && riseV 0 l
theorem tpure_p (x : Ve) (w : World) :
  Calls Tryz.prog 62 #[.agg #[.int .i64 x.ver, .bool x.gone, .string x.body]] w fun e w' => e = .returned (.bool (pureV x)) ∧ Below w.heap.size w w' := by
 obtain ⟨ver, gone, body⟩ := x
 unfold pureV
 dsimp only
 cases gone with
 | true =>
  rw [if_pos rfl]
  by_cases h : body.size = 0
  ·obtain rfl := ba_size0 h
   go_enter Tryz.func62, Tryz.ntmps62
   go_wp2_with fail
   go_ret
   exact ⟨rfl, (Below.refl _ _).alloc (Nat.le_refl _) _⟩
  ·have he := ba_isEmpty h
   rw [decide_eq_false h]
   go_enter Tryz.func62, Tryz.ntmps62
   go_wp2_with fail
   go_ret
   exact ⟨rfl, (Below.refl _ _).alloc (Nat.le_refl _) _⟩
 | false =>
  rw [if_neg (by simp)]
  have he : decide ((body.size : Int) ≤ 300) = decide (body.size ≤ 300) := decide_eq_decide.2 (by omega)
  obtain ⟨r, hr⟩ : ∃ r, decide (body.size ≤ 300) = r := ⟨_, rfl⟩
  rw [hr] at he ⊢
  go_enter Tryz.func62, Tryz.ntmps62
  go_wp2_with fail
  go_ret
  exact ⟨rfl, (Below.refl _ _).alloc (Nat.le_refl _) _⟩
theorem tmay_p (key : ByteArray) (v : Value) (l : List Ve) (w : World) (h : VsAt w v l) (hn : l.length ≤ 1000000) :
  Calls Tryz.prog 29 #[.agg #[.string key, v]] w fun e w' => e = .returned (.bool (mayE key l)) ∧ Below w.heap.size w w' := by
 obtain ⟨ad, cap, rfl, _⟩ := h.shape
 have HB : Hid (Below w.heap.size w (w.alloc (.cells #[.string key, .slice ad l.length cap] 45))) := Lib.hid ((Below.refl _ w).alloc (Nat.le_refl _) _)
 have HE := Lib.hid (EC.new w key ad l.length cap 45)
 have HK := Lib.hid (fun W => key_p key W)
 have HV := Lib.hid (h.below HB.out)
 have HP := Lib.hid (fun x W => tpure_p x W)
 unfold mayE
 clear h
 obtain ⟨kb, hkb⟩ : ∃ kb, keyB key = kb := ⟨_, rfl⟩
 rw [hkb] at HK ⊢
 clear hkb
 cases kb with
 | false =>
  rw [Bool.false_and, Bool.false_and, Bool.false_and]
  go_enter Tryz.func29, Tryz.ntmps29
  go_wp2_with fail
  refine (HK.out _).mono ?_
  rintro _ w1 ⟨rfl, hb1⟩
  go_wp2_with fail
  go_ret
  exact ⟨rfl, HB.out.trans (hb1.mono HB.out.size)⟩
 | true =>
  rw [Bool.true_and]
  by_cases h0 : l.length = 0
  ·have hz : (((l.length : Nat) : Int) == 0) = true := by rw [h0]; rfl
   rw [decide_eq_false (show ¬ 1 ≤ l.length by omega), Bool.false_and, Bool.false_and]
   clear h0
   go_enter Tryz.func29, Tryz.ntmps29
   go_wp2_with fail
   refine (HK.out _).mono ?_
   rintro _ w1 ⟨rfl, hb1⟩
   have HB1 := Lib.hid (HB.out.trans (hb1.mono HB.out.size))
   obtain ⟨⟨c0, c1⟩, f0, f1⟩ := HE.out.below hb1
   clear hb1
   go_wp2_with fail
   go_ret
   exact ⟨rfl, HB1.out⟩
  have hz : (((l.length : Nat) : Int) == 0) = false := by rw [beq_eq_false_iff_ne]; omega
  rw [decide_eq_true (show 1 ≤ l.length by omega), Bool.true_and]
  by_cases h12 : 12 < l.length
  ·have h12' : (12 : Int) < (l.length : Int) := by omega
   rw [decide_eq_false (show ¬ l.length ≤ 12 by omega), Bool.false_and]
   clear h0 h12
   go_enter Tryz.func29, Tryz.ntmps29
   go_wp2_with fail
   refine (HK.out _).mono ?_
   rintro _ w1 ⟨rfl, hb1⟩
   have HB1 := Lib.hid (HB.out.trans (hb1.mono HB.out.size))
   obtain ⟨⟨c0, c1⟩, f0, f1⟩ := HE.out.below hb1
   clear hb1
   go_wp2_with fail
   go_ret
   exact ⟨rfl, HB1.out⟩
  have h12' : ¬ (12 : Int) < (l.length : Int) := by omega
  rw [decide_eq_true (show l.length ≤ 12 by omega), Bool.true_and]
  obtain ⟨R, hR⟩ : ∃ R, riseV 0 l = R := ⟨_, rfl⟩
  rw [hR]
  have HR := Lib.hid hR
  clear h0 h12 hR
  go_enter Tryz.func29, Tryz.ntmps29
  go_wp2_with fail
  refine (HK.out _).mono ?_
  rintro _ w1 ⟨rfl, hb1⟩
  have HB1 := Lib.hid (HB.out.trans (hb1.mono HB.out.size))
  have HV1 := Lib.hid (HV.out.below hb1)
  obtain ⟨⟨c0, c1⟩, f0, f1⟩ := HE.out.below hb1
  clear hb1
  go_wp2_with fail
  clear c0 c1 f0 f1
  go_loopg [3, 5, 25] l.length (fun gg s3 _ s25 wr => ∃ (k : Nat) (b : Int), k ≤ l.length ∧ l.length - k ≤ gg ∧ s25 = .int .i64 k ∧ s3 = .int .i64 b ∧ Hid (riseV b (l.drop k) = R) ∧ Hid (Below w1.heap.size w1 wr))
  case atStart => exact ⟨0, 0, Nat.zero_le _, by omega, rfl, rfl, HR, Lib.hid (Below.refl _ _)⟩
  case round =>
   obtain ⟨k, b, hk, hg, rfl, rfl, HQ, HBW⟩ := hrel
   by_cases hlt : k < l.length
   ·have hltz : (k : Int) < (l.length : Int) := by omega
    obtain ⟨x, hx⟩ : ∃ x, l[k]? = some x := ⟨_, List.getElem?_eq_getElem hlt⟩
    obtain ⟨g, o, rfl, d0, d1, d2, hgl⟩ := (HV1.out.below HBW.out).get hx
    have hQ := HQ.out
    rw [List.drop_eq_getElem_cons hlt, show l[k] = x from (List.getElem?_eq_some_iff.1 hx).2] at hQ
    simp only [riseV] at hQ
    have HBN : Hid (Below w.heap.size w wr) := Lib.hid (HB1.out.trans (HBW.out.mono HB1.out.size))
    have HPX := Lib.hid (fun W => HP.out x W)
    have HNX := Lib.hid (VC3.new wr x 55)
    have hsn : (wr.alloc (.cells #[.int .i64 x.ver, .bool x.gone, .string x.body] 55)).heap.size = wr.heap.size + 1 := by simp
    have HBA : Hid (Below w.heap.size w (wr.alloc (.cells #[.int .i64 x.ver, .bool x.gone, .string x.body] 55))) := Lib.hid (HBN.out.alloc HBN.out.size _)
    have HWA : Hid (Below w1.heap.size w1 (wr.alloc (.cells #[.int .i64 x.ver, .bool x.gone, .string x.body] 55))) := Lib.hid (HBW.out.alloc HBW.out.size _)
    clear hx hgl
    by_cases q1 : x.ver ≤ b
    ·obtain rfl : R = false := by rw [← hQ, decide_eq_false (show ¬ b < x.ver by omega)]; rfl
     clear hQ
     go_wp2_with fail
     go_ret
     exact ⟨rfl, HBA.out⟩
    rw [decide_eq_true (show b < x.ver by omega), Bool.true_and] at hQ
    by_cases q2 : 1099511627776 < x.ver
    ·obtain rfl : R = false := by rw [← hQ, decide_eq_false (show ¬ x.ver ≤ 1099511627776 by omega)]; rfl
     clear hQ
     go_wp2_with fail
     go_ret
     exact ⟨rfl, HBA.out⟩
    rw [decide_eq_true (show x.ver ≤ 1099511627776 by omega), Bool.true_and] at hQ
    cases hp : pureV x with
    | false =>
     rw [hp, Bool.false_and] at hQ
     rw [hp] at HPX
     subst hQ
     go_wp2_with fail
     refine (HPX.out _).mono ?_
     rintro _ w2 ⟨rfl, hb2⟩
     go_wp2_with fail
     go_ret
     exact ⟨rfl, HBA.out.trans (hb2.mono HBA.out.size)⟩
    | true =>
     rw [hp, Bool.true_and] at hQ
     rw [hp] at HPX
     have HN := Lib.hid hQ
     clear hQ
     go_wp2_with fail
     refine (HPX.out _).mono ?_
     rintro _ w2 ⟨rfl, hb2⟩
     have HW2 := Lib.hid (HWA.out.trans (hb2.mono HWA.out.size))
     obtain ⟨⟨n0, n1, n2⟩, _⟩ := HNX.out.below hb2
     clear hb2
     go_wp2_with fail
     go_roundg (l.length - (k + 1))
     case measure => omega
     case rel => exact ⟨k + 1, x.ver, by omega, by omega, by go_num, rfl, HN, HW2⟩
   ·have hltz : ¬ (k : Int) < (l.length : Int) := by omega
    obtain rfl : R = true := by
     rw [← HQ.out, List.drop_eq_nil_of_le (by omega)]; rfl
    go_wp2_with fail
    go_ret
    exact ⟨rfl, HB1.out.trans (HBW.out.mono HB1.out.size)⟩
def VC (w : World) (b : Nat) (k n : Int) (s : ByteArray) (ad : Option Addr) (len cap : Nat) : Prop :=
 (w.cell? ⟨b, 0, none⟩ = some (.int .i64 k) ∧ w.cell? ⟨b, 1, none⟩ = some (.int .i64 n) ∧ w.cell? ⟨b, 2, none⟩ = some (.string s) ∧ w.cell? ⟨b, 3, none⟩ = some (.slice ad len cap)) ∧
  w.frozen? ⟨b, 0, none⟩ = false ∧ w.frozen? ⟨b, 1, none⟩ = false ∧ w.frozen? ⟨b, 2, none⟩ = false ∧ w.frozen? ⟨b, 3, none⟩ = false
theorem VC.below {w w' : World} {b : Nat} {k n : Int} {s : ByteArray} {ad : Option Addr} {len cap : Nat} (h : VC w b k n s ad len cap) (hb : Below w.heap.size w w') : VC w' b k n s ad len cap := by
 have hl : b < w.heap.size := World.block_lt_of_cell? w _ h.1.1
 have e := hb.block b hl
 obtain ⟨⟨h0, h1, h2, h3⟩, f0, f1, f2, f3⟩ := h
 have f (o : Nat) : w'.frozen? ⟨b, o, none⟩ = w.frozen? ⟨b, o, none⟩ := World.frozen?_of_block (a := ⟨b, o, none⟩) e
 exact ⟨⟨by rw [hb.cell hl]; exact h0, by rw [hb.cell hl]; exact h1, by rw [hb.cell hl]; exact h2, by rw [hb.cell hl]; exact h3⟩, by rw [f]; exact f0, by rw [f]; exact f1, by rw [f]; exact f2, by rw [f]; exact f3⟩
theorem parts_new (y : World) (d : De) (t : TypeId) : RepG (y.alloc (.cells #[.int .i64 1, .int .i64 d.kind, .string ⟨#[]⟩, .slice none 0 0, .int .i64 2, .int .i64 0, .string d.key, .slice none 0 0, .int .i64 2, .int .i64 0, .string d.body, .slice none 0 0, .int .i64 1, .int .i64 d.ver, .string ⟨#[]⟩, .slice none 0 0, .int .i64 1, .int .i64 d.cond, .string ⟨#[]⟩, .slice none 0 0, .int .i64 2, .int .i64 0, .string d.tag, .slice none 0 0, .int .i64 1, .int .i64 d.req, .string ⟨#[]⟩, .slice none 0 0, .int .i64 1, .int .i64 d.low, .string ⟨#[]⟩, .slice none 0 0] t)) (fun b => b = y.heap.size) (some ⟨y.heap.size, 0, none⟩) d.parts := by
 have hn : (y.alloc (.cells #[.int .i64 1, .int .i64 d.kind, .string ⟨#[]⟩, .slice none 0 0, .int .i64 2, .int .i64 0, .string d.key, .slice none 0 0, .int .i64 2, .int .i64 0, .string d.body, .slice none 0 0, .int .i64 1, .int .i64 d.ver, .string ⟨#[]⟩, .slice none 0 0, .int .i64 1, .int .i64 d.cond, .string ⟨#[]⟩, .slice none 0 0, .int .i64 2, .int .i64 0, .string d.tag, .slice none 0 0, .int .i64 1, .int .i64 d.req, .string ⟨#[]⟩, .slice none 0 0, .int .i64 1, .int .i64 d.low, .string ⟨#[]⟩, .slice none 0 0] t)).heap[y.heap.size]? = some (.cells #[.int .i64 1, .int .i64 d.kind, .string ⟨#[]⟩, .slice none 0 0, .int .i64 2, .int .i64 0, .string d.key, .slice none 0 0, .int .i64 2, .int .i64 0, .string d.body, .slice none 0 0, .int .i64 1, .int .i64 d.ver, .string ⟨#[]⟩, .slice none 0 0, .int .i64 1, .int .i64 d.cond, .string ⟨#[]⟩, .slice none 0 0, .int .i64 2, .int .i64 0, .string d.tag, .slice none 0 0, .int .i64 1, .int .i64 d.req, .string ⟨#[]⟩, .slice none 0 0, .int .i64 1, .int .i64 d.low, .string ⟨#[]⟩, .slice none 0 0] t (0, 0)) := heap_alloc_new y _
 refine .inr ⟨_, 0, rfl, ?_⟩
 unfold De.parts
 refine ⟨⟨rfl, _, _, hn⟩, ?_, ?_, ?_, ⟨none, 0, ?_, .inl rfl⟩, ⟨rfl, _, _, hn⟩, ?_, ?_, ?_, ⟨none, 0, ?_, .inl rfl⟩, ⟨rfl, _, _, hn⟩, ?_, ?_, ?_, ⟨none, 0, ?_, .inl rfl⟩, ⟨rfl, _, _, hn⟩, ?_, ?_, ?_, ⟨none, 0, ?_, .inl rfl⟩, ⟨rfl, _, _, hn⟩, ?_, ?_, ?_, ⟨none, 0, ?_, .inl rfl⟩, ⟨rfl, _, _, hn⟩, ?_, ?_, ?_, ⟨none, 0, ?_, .inl rfl⟩, ⟨rfl, _, _, hn⟩, ?_, ?_, ?_, ⟨none, 0, ?_, .inl rfl⟩, ⟨rfl, _, _, hn⟩, ?_, ?_, ?_, ⟨none, 0, ?_, .inl rfl⟩, trivial⟩ <;> (unfold World.cell?; simp only [hn]; rfl)
theorem dval_p (d : De) (b : Bool) (hb : b = true ↔ mayD d) (hwf : d.wf) (w : World) (ht : TzAt w) (he : ErrAt w) :
  Calls Tryz.prog 46 #[dagg d] w fun e w' => Below w.heap.size w w' ∧ ((b = false ∧ e = .returned (.agg #[.int .i64 0, .int .i64 0, .string ⟨#[]⟩, .slice none 0 0])) ∨
   (b = true ∧ ∃ ad cap, e = .returned (.agg #[.int .i64 3, .int .i64 0, .string ⟨#[]⟩, .slice ad 8 cap]) ∧ RepG w' (fun b => w.heap.size ≤ b) ad d.parts)) := by
 obtain ⟨kind, key, body, ver, cond, tag, req, low⟩ := d
 have HM := Lib.hid (fun W hw1 hw2 => dmay_p ⟨kind, key, body, ver, cond, tag, req, low⟩ b hb hwf W hw1 hw2)
 have hb0 : Below w.heap.size w (w.alloc (.cells #[.int .i64 kind, .string key, .string body, .int .i64 ver, .int .i64 cond, .string tag, .int .i64 req, .int .i64 low] 35)) := (Below.refl _ _).alloc (Nat.le_refl _) _
 have HC := Lib.hid (DeC.new w ⟨kind, key, body, ver, cond, tag, req, low⟩ 35)
 have HB := Lib.hid hb0
 have HTE := Lib.hid (And.intro ht he)
 clear hb hwf ht he hb0
 unfold dagg at HM ⊢
 unfold De.parts
 dsimp only at HM HC ⊢
 obtain ⟨q0, q1, q2, q3, q4, q5, q6, q7⟩ := HC.out
 go_enter Tryz.func46, Tryz.ntmps46
 go_wp2_with fail
 refine (HM.out _ ?_ ?_).mono ?_
 ·exact HTE.out.1.below (HB.out.alloc (by simp) _)
 ·exact HTE.out.2.below (HB.out.alloc (by simp) _)
 rintro _ w1 ⟨rfl, hb1⟩
 have HC1 := Lib.hid ((HC.out.below ((Below.refl _ _).alloc (Nat.le_refl _) _)).below hb1)
 have hv : VC _ (w.heap.size + 1) 0 0 ⟨#[]⟩ none 0 0 := (show VC ((w.alloc (.cells #[.int .i64 kind, .string key, .string body, .int .i64 ver, .int .i64 cond, .string tag, .int .i64 req, .int .i64 low] 35)).alloc (.cells #[.int .i64 0, .int .i64 0, .string ⟨#[]⟩, .slice none 0 0] 88)) (w.heap.size + 1) 0 0 ⟨#[]⟩ none 0 0 by
  refine ⟨⟨?_, ?_, ?_, ?_⟩, ?_, ?_, ?_, ?_⟩ <;> go_simp)
 have HV1 := Lib.hid (hv.below hb1)
 have hs1 : w.heap.size + 2 ≤ w1.heap.size := by
  have hs := hb1.size
  simp at hs
  omega
 have HB1 := Lib.hid ((HB.out.alloc (by simp) _).trans (hb1.mono (by simp; omega)))
 clear hb1 q0 q1 q2 q3 q4 q5 q6 q7 hv
 cases b with
 | false =>
  obtain ⟨⟨v0, v1, v2, v3⟩, f0, f1, f2, f3⟩ := HV1.out
  go_wp2_with fail
  have hC : VC ((((w1.setCell ⟨w.heap.size + 1, 0, none⟩ (.int .i64 0)).setCell ⟨w.heap.size + 1, 1, none⟩ (.int .i64 0)).setCell ⟨w.heap.size + 1, 2, none⟩ (.string ⟨#[]⟩)).setCell ⟨w.heap.size + 1, 3, none⟩ (.slice none 0 0)) (w.heap.size + 1) 0 0 ⟨#[]⟩ none 0 0 := by
   refine ⟨⟨?_, ?_, ?_, ?_⟩, ?_, ?_, ?_, ?_⟩ <;> go_simp
  have hB4 : Below w.heap.size w ((((w1.setCell ⟨w.heap.size + 1, 0, none⟩ (.int .i64 0)).setCell ⟨w.heap.size + 1, 1, none⟩ (.int .i64 0)).setCell ⟨w.heap.size + 1, 2, none⟩ (.string ⟨#[]⟩)).setCell ⟨w.heap.size + 1, 3, none⟩ (.slice none 0 0)) :=
   (((HB1.out.setCell (by simp) _).setCell (by simp) _).setCell (by simp) _).setCell (by simp) _
  generalize (((w1.setCell ⟨w.heap.size + 1, 0, none⟩ (.int .i64 0)).setCell ⟨w.heap.size + 1, 1, none⟩ (.int .i64 0)).setCell ⟨w.heap.size + 1, 2, none⟩ (.string ⟨#[]⟩)).setCell ⟨w.heap.size + 1, 3, none⟩ (.slice none 0 0) = W4 at *
  obtain ⟨⟨t0, t1, t2, t3⟩, _⟩ := hC
  exact bodyPost_ret (v := .agg #[.int .i64 0, .int .i64 0, .string ⟨#[]⟩, .slice none 0 0]) (by simp [results, Tryz.results46, go_sem, t0, t1, t2, t3]) rfl ⟨hB4, by first | exact rfl | exact .inl rfl | exact .inl ⟨rfl, rfl⟩⟩
 | true =>
  have HS : Hid (∀ W, Below w1.heap.size w1 W → DeC W w.heap.size ⟨kind, key, body, ver, cond, tag, req, low⟩) := Lib.hid (fun W hW => HC1.out.below hW)
  go_wp2_with fail
  have hS0 := HS.out _ (Below.refl w1.heap.size w1).drew
  refine wp_region_last (S := fun W => DeC W w.heap.size ⟨kind, key, body, ver, cond, tag, req, low⟩) (by kernel_rfl) (ops := List.toArray [_, _, _, _, _, _, _, _, _, _, _, _, _, _, _, _, _, _, _, _, _, _, _, _, _, _]) (o := _) rfl (by kernel_rfl) ?_
  refine tk 0 (.pointer (some ⟨w.heap.size, 0, none⟩)) rfl ?_ hS0 ?_
  ·intro w' ⟨s0, s1, s2, s3, s4, s5, s6, s7⟩; dsimp only at s0 s1 s2 s3 s4 s5 s6 s7; go_simp
  refine tk 1 (.int .i64 kind) rfl ?_ hS0 ?_
  ·intro w' ⟨s0, s1, s2, s3, s4, s5, s6, s7⟩; dsimp only at s0 s1 s2 s3 s4 s5 s6 s7; go_simp
  refine tk 3 (.pointer (some ⟨w.heap.size, 1, none⟩)) rfl ?_ hS0 ?_
  ·intro w' ⟨s0, s1, s2, s3, s4, s5, s6, s7⟩; dsimp only at s0 s1 s2 s3 s4 s5 s6 s7; go_simp
  refine tk 4 (.string key) rfl ?_ hS0 ?_
  ·intro w' ⟨s0, s1, s2, s3, s4, s5, s6, s7⟩; dsimp only at s0 s1 s2 s3 s4 s5 s6 s7; go_simp
  refine tk 6 (.pointer (some ⟨w.heap.size, 2, none⟩)) rfl ?_ hS0 ?_
  ·intro w' ⟨s0, s1, s2, s3, s4, s5, s6, s7⟩; dsimp only at s0 s1 s2 s3 s4 s5 s6 s7; go_simp
  refine tk 7 (.string body) rfl ?_ hS0 ?_
  ·intro w' ⟨s0, s1, s2, s3, s4, s5, s6, s7⟩; dsimp only at s0 s1 s2 s3 s4 s5 s6 s7; go_simp
  refine tk 9 (.pointer (some ⟨w.heap.size, 3, none⟩)) rfl ?_ hS0 ?_
  ·intro w' ⟨s0, s1, s2, s3, s4, s5, s6, s7⟩; dsimp only at s0 s1 s2 s3 s4 s5 s6 s7; go_simp
  refine tk 10 (.int .i64 ver) rfl ?_ hS0 ?_
  ·intro w' ⟨s0, s1, s2, s3, s4, s5, s6, s7⟩; dsimp only at s0 s1 s2 s3 s4 s5 s6 s7; go_simp
  refine tk 12 (.pointer (some ⟨w.heap.size, 4, none⟩)) rfl ?_ hS0 ?_
  ·intro w' ⟨s0, s1, s2, s3, s4, s5, s6, s7⟩; dsimp only at s0 s1 s2 s3 s4 s5 s6 s7; go_simp
  refine tk 13 (.int .i64 cond) rfl ?_ hS0 ?_
  ·intro w' ⟨s0, s1, s2, s3, s4, s5, s6, s7⟩; dsimp only at s0 s1 s2 s3 s4 s5 s6 s7; go_simp
  refine tk 15 (.pointer (some ⟨w.heap.size, 5, none⟩)) rfl ?_ hS0 ?_
  ·intro w' ⟨s0, s1, s2, s3, s4, s5, s6, s7⟩; dsimp only at s0 s1 s2 s3 s4 s5 s6 s7; go_simp
  refine tk 16 (.string tag) rfl ?_ hS0 ?_
  ·intro w' ⟨s0, s1, s2, s3, s4, s5, s6, s7⟩; dsimp only at s0 s1 s2 s3 s4 s5 s6 s7; go_simp
  refine tk 18 (.pointer (some ⟨w.heap.size, 6, none⟩)) rfl ?_ hS0 ?_
  ·intro w' ⟨s0, s1, s2, s3, s4, s5, s6, s7⟩; dsimp only at s0 s1 s2 s3 s4 s5 s6 s7; go_simp
  refine tk 19 (.int .i64 req) rfl ?_ hS0 ?_
  ·intro w' ⟨s0, s1, s2, s3, s4, s5, s6, s7⟩; dsimp only at s0 s1 s2 s3 s4 s5 s6 s7; go_simp
  refine tk 21 (.pointer (some ⟨w.heap.size, 7, none⟩)) rfl ?_ hS0 ?_
  ·intro w' ⟨s0, s1, s2, s3, s4, s5, s6, s7⟩; dsimp only at s0 s1 s2 s3 s4 s5 s6 s7; go_simp
  refine tk 22 (.int .i64 low) rfl ?_ hS0 ?_
  ·intro w' ⟨s0, s1, s2, s3, s4, s5, s6, s7⟩; dsimp only at s0 s1 s2 s3 s4 s5 s6 s7; go_simp
  simp only [List.getElem_toArray, List.getElem_cons_succ, List.getElem_cons_zero, Act.put, List.setIfInBounds_toArray, List.set_cons_zero, List.set_cons_succ]
  have HX0 := Lib.hid (Below.refl w1.heap.size w1).drew
  clear hS0
  refine wpAnyH_ready (rs := [2]) (by kernel_rfl) (by simp) ?_
  refine AllReadyH.cons rfl (fun K hK => ?_) AllReadyH.nil
  simp only [List.getElem_toArray, List.getElem_cons_succ, List.getElem_cons_zero]
  go_simp
  refine (dnum_p kind _).mono ?_
  rintro _ y1 ⟨rfl, hy⟩
  have HX1 := Lib.hid (HX0.out.trans (hy.mono HX0.out.size))
  clear hy
  refine hK.out _ _ (HS.out _ HX1.out) (fun _ => ?_)
  clear hK
  refine wpAnyH_ready (rs := [5]) (by kernel_rfl) (by simp) ?_
  refine AllReadyH.cons rfl (fun K hK => ?_) AllReadyH.nil
  simp only [List.getElem_toArray, List.getElem_cons_succ, List.getElem_cons_zero]
  go_simp
  refine (dstr_p key _).mono ?_
  rintro _ y2 ⟨rfl, hy⟩
  have HX2 := Lib.hid (HX1.out.trans (hy.mono HX1.out.size))
  clear hy
  refine hK.out _ _ (HS.out _ HX2.out) (fun _ => ?_)
  clear hK
  refine wpAnyH_ready (rs := [8]) (by kernel_rfl) (by simp) ?_
  refine AllReadyH.cons rfl (fun K hK => ?_) AllReadyH.nil
  simp only [List.getElem_toArray, List.getElem_cons_succ, List.getElem_cons_zero]
  go_simp
  refine (dstr_p body _).mono ?_
  rintro _ y3 ⟨rfl, hy⟩
  have HX3 := Lib.hid (HX2.out.trans (hy.mono HX2.out.size))
  clear hy
  refine hK.out _ _ (HS.out _ HX3.out) (fun _ => ?_)
  clear hK
  refine wpAnyH_ready (rs := [11]) (by kernel_rfl) (by simp) ?_
  refine AllReadyH.cons rfl (fun K hK => ?_) AllReadyH.nil
  simp only [List.getElem_toArray, List.getElem_cons_succ, List.getElem_cons_zero]
  go_simp
  refine (dnum_p ver _).mono ?_
  rintro _ y4 ⟨rfl, hy⟩
  have HX4 := Lib.hid (HX3.out.trans (hy.mono HX3.out.size))
  clear hy
  refine hK.out _ _ (HS.out _ HX4.out) (fun _ => ?_)
  clear hK
  refine wpAnyH_ready (rs := [14]) (by kernel_rfl) (by simp) ?_
  refine AllReadyH.cons rfl (fun K hK => ?_) AllReadyH.nil
  simp only [List.getElem_toArray, List.getElem_cons_succ, List.getElem_cons_zero]
  go_simp
  refine (dnum_p cond _).mono ?_
  rintro _ y5 ⟨rfl, hy⟩
  have HX5 := Lib.hid (HX4.out.trans (hy.mono HX4.out.size))
  clear hy
  refine hK.out _ _ (HS.out _ HX5.out) (fun _ => ?_)
  clear hK
  refine wpAnyH_ready (rs := [17]) (by kernel_rfl) (by simp) ?_
  refine AllReadyH.cons rfl (fun K hK => ?_) AllReadyH.nil
  simp only [List.getElem_toArray, List.getElem_cons_succ, List.getElem_cons_zero]
  go_simp
  refine (dstr_p tag _).mono ?_
  rintro _ y6 ⟨rfl, hy⟩
  have HX6 := Lib.hid (HX5.out.trans (hy.mono HX5.out.size))
  clear hy
  refine hK.out _ _ (HS.out _ HX6.out) (fun _ => ?_)
  clear hK
  refine wpAnyH_ready (rs := [20]) (by kernel_rfl) (by simp) ?_
  refine AllReadyH.cons rfl (fun K hK => ?_) AllReadyH.nil
  simp only [List.getElem_toArray, List.getElem_cons_succ, List.getElem_cons_zero]
  go_simp
  refine (dnum_p req _).mono ?_
  rintro _ y7 ⟨rfl, hy⟩
  have HX7 := Lib.hid (HX6.out.trans (hy.mono HX6.out.size))
  clear hy
  refine hK.out _ _ (HS.out _ HX7.out) (fun _ => ?_)
  clear hK
  refine wpAnyH_ready (rs := [23]) (by kernel_rfl) (by simp) ?_
  refine AllReadyH.cons rfl (fun K hK => ?_) AllReadyH.nil
  simp only [List.getElem_toArray, List.getElem_cons_succ, List.getElem_cons_zero]
  go_simp
  refine (dnum_p low _).mono ?_
  rintro _ y8 ⟨rfl, hy⟩
  have HX8 := Lib.hid (HX7.out.trans (hy.mono HX7.out.size))
  clear hy
  refine hK.out _ _ (HS.out _ HX8.out) (fun _ => ?_)
  clear hK
  refine wpAnyH_ready (rs := [24]) (by kernel_rfl) (by simp) ?_
  refine AllReadyH.cons rfl (fun K hK => ?_) AllReadyH.nil
  simp only [List.getElem_toArray, List.getElem_cons_succ, List.getElem_cons_zero]
  go_simp
  have hg := parts_new y8 ⟨kind, key, body, ver, cond, tag, req, low⟩ 88
  unfold De.parts at hg
  dsimp only at hg
  have hx9 := HX8.out.alloc HX8.out.size (.cells #[.int .i64 1, .int .i64 kind, .string ⟨#[]⟩, .slice none 0 0, .int .i64 2, .int .i64 0, .string key, .slice none 0 0, .int .i64 2, .int .i64 0, .string body, .slice none 0 0, .int .i64 1, .int .i64 ver, .string ⟨#[]⟩, .slice none 0 0, .int .i64 1, .int .i64 cond, .string ⟨#[]⟩, .slice none 0 0, .int .i64 2, .int .i64 0, .string tag, .slice none 0 0, .int .i64 1, .int .i64 req, .string ⟨#[]⟩, .slice none 0 0, .int .i64 1, .int .i64 low, .string ⟨#[]⟩, .slice none 0 0] 88)
  refine hK.out _ _ (HS.out _ hx9) (fun _ => ?_)
  clear hK
  have hy8 := HX8.out.size
  generalize y8.alloc _ = y9 at *
  have HG9 := Lib.hid hg
  have HX9 := Lib.hid hx9
  clear hg hx9
  refine wpAnyH_ready (rs := [25]) (by kernel_rfl) (by simp) ?_
  refine AllReadyH.cons rfl (fun K hK => ?_) AllReadyH.nil
  simp only [List.getElem_toArray, List.getElem_cons_succ, List.getElem_cons_zero]
  go_simp
  refine hK.out _ _ (HS.out _ HX9.out) (fun _ => ?_)
  clear hK
  refine wpAnyH_done (by kernel_rfl) ?_ _
  obtain ⟨⟨v0, v1, v2, v3⟩, f0, f1, f2, f3⟩ := HV1.out.below HX9.out
  rw [Exit.then]
  rw [if_pos (by rfl)]
  go_simp
  go_wp2_with fail
  have hC : VC ((((y9.setCell ⟨w.heap.size + 1, 0, none⟩ (.int .i64 3)).setCell ⟨w.heap.size + 1, 1, none⟩ (.int .i64 0)).setCell ⟨w.heap.size + 1, 2, none⟩ (.string ⟨#[]⟩)).setCell ⟨w.heap.size + 1, 3, none⟩ (.slice (some ⟨y8.heap.size, 0, none⟩) 8 8)) (w.heap.size + 1) 3 0 ⟨#[]⟩ (some ⟨y8.heap.size, 0, none⟩) 8 8 := by
   refine ⟨⟨?_, ?_, ?_, ?_⟩, ?_, ?_, ?_, ?_⟩ <;> go_simp
  have hBw := HB1.out.trans (HX9.out.mono HB1.out.size)
  have hB4 : Below w.heap.size w ((((y9.setCell ⟨w.heap.size + 1, 0, none⟩ (.int .i64 3)).setCell ⟨w.heap.size + 1, 1, none⟩ (.int .i64 0)).setCell ⟨w.heap.size + 1, 2, none⟩ (.string ⟨#[]⟩)).setCell ⟨w.heap.size + 1, 3, none⟩ (.slice (some ⟨y8.heap.size, 0, none⟩) 8 8)) :=
   (((hBw.setCell (by simp) _).setCell (by simp) _).setCell (by simp) _).setCell (by simp) _
  have hG4 := HG9.out.to (w' := (((y9.setCell ⟨w.heap.size + 1, 0, none⟩ (.int .i64 3)).setCell ⟨w.heap.size + 1, 1, none⟩ (.int .i64 0)).setCell ⟨w.heap.size + 1, 2, none⟩ (.string ⟨#[]⟩)).setCell ⟨w.heap.size + 1, 3, none⟩ (.slice (some ⟨y8.heap.size, 0, none⟩) 8 8)) (A' := fun b => w.heap.size ≤ b) (fun b hb _ => ⟨by omega, by
   rw [heap_setCell_other _ _ _ _ (by simp; omega), heap_setCell_other _ _ _ _ (by simp; omega), heap_setCell_other _ _ _ _ (by simp; omega), heap_setCell_other _ _ _ _ (by simp; omega)]⟩)
  generalize (((y9.setCell ⟨w.heap.size + 1, 0, none⟩ (.int .i64 3)).setCell ⟨w.heap.size + 1, 1, none⟩ (.int .i64 0)).setCell ⟨w.heap.size + 1, 2, none⟩ (.string ⟨#[]⟩)).setCell ⟨w.heap.size + 1, 3, none⟩ (.slice (some ⟨y8.heap.size, 0, none⟩) 8 8) = W4 at *
  obtain ⟨⟨t0, t1, t2, t3⟩, _⟩ := hC
  exact bodyPost_ret (v := .agg #[.int .i64 3, .int .i64 0, .string ⟨#[]⟩, .slice (some ⟨y8.heap.size, 0, none⟩) 8 8]) (by simp [results, Tryz.results46, go_sem, t0, t1, t2, t3]) rfl ⟨hB4, _, ⟨_, rfl⟩, hG4⟩
end Go.Proofs.YtlpgphiccjkenaaGreatDoor
