/-
  PouchDeep answers true.
-/
import Derived.Test.YtamennoehnigaaaDoorDeep1
import Derived.Test.YtamennoehnigaaaDoorLaw1
import Derived.Test.YtamennoehnigaaaDoorPouch5
import Derived.OneCell
namespace Go.Proofs.YtamennoehnigaaaDoor
open Go.RowKit

/-- A value in a block of its own. -/
def V4 (w : World) (b : Nat) (k n : Int) (s : ByteArray) (sl : Value) : Prop :=
  (w.cell? ⟨b, 0, none⟩ = some (.int .i64 k) ∧ w.cell? ⟨b, 1, none⟩ = some (.int .i64 n) ∧ w.cell? ⟨b, 2, none⟩ = some (.string s) ∧ w.cell? ⟨b, 3, none⟩ = some sl) ∧
    (w.frozen? ⟨b, 0, none⟩ = false ∧ w.frozen? ⟨b, 1, none⟩ = false ∧ w.frozen? ⟨b, 2, none⟩ = false ∧ w.frozen? ⟨b, 3, none⟩ = false)

theorem V4.kept {w w' : World} {b : Nat} {k n : Int} {s : ByteArray} {sl : Value} (h : V4 w b k n s sl) (e : w'.heap[b]? = w.heap[b]?) : V4 w' b k n s sl := by
  obtain ⟨⟨h0, h1, h2, h3⟩, z0, z1, z2, z3⟩ := h
  have c := fun o : Nat => World.cell?_of_block (a := ⟨b, o, none⟩) e
  have f := fun o : Nat => World.frozen?_of_block (a := ⟨b, o, none⟩) e
  exact ⟨⟨by rw [c]; exact h0, by rw [c]; exact h1, by rw [c]; exact h2, by rw [c]; exact h3⟩, by rw [f]; exact z0, by rw [f]; exact z1, by rw [f]; exact z2, by rw [f]; exact z3⟩

theorem V4.lt {w : World} {b : Nat} {k n : Int} {s : ByteArray} {sl : Value} (h : V4 w b k n s sl) : b < w.heap.size := World.block_lt_of_cell? w _ h.1.1

theorem V4.below {w w' : World} {B b : Nat} {k n : Int} {s : ByteArray} {sl : Value} (h : V4 w b k n s sl) (hb : Below B w w') (hB : w.heap.size ≤ B) : V4 w' b k n s sl :=
  h.kept (hb.block b (Nat.lt_of_lt_of_le h.lt hB))

theorem V4.new (w : World) (k n : Int) (s : ByteArray) (sl : Value) (t : TypeId) : V4 (w.alloc (.cells #[.int .i64 k, .int .i64 n, .string s, sl] t)) w.heap.size k n s sl := by
  refine ⟨⟨?_, ?_, ?_, ?_⟩, ?_, ?_, ?_, ?_⟩ <;> go_simp

/-- A value in a block of its own, and its list behind it: in blocks of A. -/
def VL (w : World) (b : Nat) (A : Nat → Prop) (k n : Int) (s : ByteArray) (l : F) (ad : Option Addr) (cap : Nat) : Prop :=
  V4 w b k n s (.slice ad l.len cap) ∧ RepG w A ad l

theorem VL.kept {w w' : World} {b : Nat} {A A' : Nat → Prop} {k n : Int} {s : ByteArray} {l : F} {ad : Option Addr} {cap : Nat} (h : VL w b A k n s l ad cap) (hb : w'.heap[b]? = w.heap[b]?) (hA : ∀ c, A c → c < w.heap.size → A' c ∧ w'.heap[c]? = w.heap[c]?) : VL w' b A' k n s l ad cap :=
  ⟨h.1.kept hb, h.2.to hA⟩

theorem VL.below {w w' : World} {B b : Nat} {A : Nat → Prop} {k n : Int} {s : ByteArray} {l : F} {ad : Option Addr} {cap : Nat} (h : VL w b A k n s l ad cap) (hb : Below B w w') (hB : w.heap.size ≤ B) : VL w' b A k n s l ad cap :=
  h.kept (hb.block b (Nat.lt_of_lt_of_le h.1.lt hB)) (fun c hc hl => ⟨hc, hb.block c (Nat.lt_of_lt_of_le hl hB)⟩)

/-- What the first loop keeps. -/
def DeepRel (w : World) (V d : Nat) (iv : Value) (wr : World) : Prop :=
  ∃ (j : Nat) (ad : Option Addr) (cap : Nat), iv = .int .i64 ((j + 1 : Nat) : Int) ∧ (j + 1 ≤ d ∨ j = 0) ∧ Hid (VL wr V (fun b => V < b) (chK j) 0 (chS j) (chL j) ad cap) ∧ Below w.heap.size w wr

/-- What the second loop keeps. -/
def DeepRel2 (w : World) (V W j m : Nat) (ad : Option Addr) (cap : Nat) (iv : Value) (wr : World) : Prop :=
  ∃ (q : Nat) (tv : Value) (xs : List Value), iv = .int .i64 q ∧ q ≤ m ∧ Hid (VL wr V (fun b => V < b ∧ b < W) (chK j) 0 (chS j) (chL j) ad cap) ∧ Hid (V4 wr W 3 0 ⟨#[]⟩ tv) ∧ Hid (wr.ownsRow (W + 1) 58 4 tv q xs) ∧
    Hid (RepX wr (fun _ => False) xs (nmL q)) ∧ Hid (Below w.heap.size w wr)

theorem infoVal2 : (Tryd.prog.info? 58).map (fun i => (i.zero, i.size, i.bytes)) = some (some (.agg #[.int .i64 0, .int .i64 0, .string ⟨#[]⟩, .slice none 0 0]), 4, 56) := by kernel_rfl

/-- The world behind a round of the first loop. -/
theorem deep_step {wr w' : World} {V j : Nat} {ad : Option Addr} {cap : Nat} (h : VL wr V (fun b => V < b) (chK j) 0 (chS j) (chL j) ad cap)
    (h1 : V4 w' V 3 0 ⟨#[]⟩ (.slice (some ⟨wr.heap.size, 0, none⟩) 1 1)) (h2 : ∀ c, c ≠ V → c < wr.heap.size → w'.heap[c]? = wr.heap[c]?)
    (h3 : w'.heap[wr.heap.size]? = some (.cells #[.int .i64 (chK j), .int .i64 0, .string (chS j), .slice ad (chL j).len cap] 58 (0, 0))) :
    VL w' V (fun b => V < b) (chK (j + 1)) 0 (chS (j + 1)) (chL (j + 1)) (some ⟨wr.heap.size, 0, none⟩) 1 := by
  have hk : chK (j + 1) = 3 := by unfold chK; rw [if_neg (by omega)]
  have hs : chS (j + 1) = ⟨#[]⟩ := by unfold chS; rw [if_neg (by omega)]
  rw [hk, hs]
  refine ⟨h1, .inr ⟨_, _, rfl, ?_⟩⟩
  have c : ∀ o : Nat, w'.cell? ⟨wr.heap.size, o, none⟩ = (#[.int .i64 (chK j), .int .i64 0, .string (chS j), .slice ad (chL j).len cap] : Array Value)[o]? := by
    intro o
    unfold World.cell?
    simp only [h3]
    rfl
  show RepA w' _ _ 0 (.cons (chK j) 0 (chS j) (chL j) .nil)
  exact ⟨⟨h.1.lt, _, _, h3⟩, by rw [c]; rfl, by rw [c]; rfl, by rw [c]; rfl, ⟨ad, cap, by rw [c]; rfl, h.2.to (fun b hb hl => ⟨hb, h2 b (by omega) hl⟩)⟩, trivial⟩

theorem empty_none : (⟨#[]⟩ : ByteArray).toList.isEmpty = true := by rw [ByteArray.toList_eq]; rfl

theorem ch_may_p (j : Nat) (hj : j ≤ 10) (b : Bool) (hb : decide (j + 1 ≤ 6) = b) (ad : Option Addr) (cap : Nat) (w : World) (hr : RepS w ad (chL j)) :
    Calls Tryd.prog 45 #[.agg #[.int .i64 (chK j), .int .i64 0, .string (chS j), .slice ad (chL j).len cap]] w fun e w' => e = .returned (.bool b) ∧ Below w.heap.size w w' := by
  have := vmay_p (chK j) 0 (chS j) (chL j) ad cap w hr
  rw [ch_may j (by omega), hb] at this
  exact this

theorem ch_put_p (j : Nat) (hj : j ≤ 10) (b : Bool) (hb : decide (j + 1 ≤ 6) = b) (ad : Option Addr) (cap : Nat) (w : World) (hl : LibAt w) (hr : RepS w ad (chL j)) :
    Calls Tryd.prog 38 #[.agg #[.int .i64 (chK j), .int .i64 0, .string (chS j), .slice ad (chL j).len cap]] w fun e w' => (∃ P : ByteArray, e = .returned (.string P) ∧ P.toList.isEmpty = !b) ∧ Below w.heap.size w w' := by
  have := Put_p (chK j) 0 (chS j) (chL j) ad cap w hl.2.2.2 ⟨by decide, by decide⟩ (ch_facts j).2.2.2 hr
  refine this.mono fun e w' h => ⟨⟨_, h.1, ?_⟩, h.2⟩
  unfold putS
  rw [ch_may j (by omega), hb]
  cases b with
  | true =>
    rw [if_pos rfl]
    exact isEmpty_ne (by have := ch_put j (by omega); omega)
  | false =>
    rw [if_neg (by decide)]
    exact empty_none

theorem nm_may_p (m : Nat) (hm : m ≤ 6100) (b : Bool) (hb : decide (m ≤ 5999) = b) (ad : Option Addr) (cap : Nat) (w : World) (hr : RepS w ad (nmL m)) :
    Calls Tryd.prog 45 #[.agg #[.int .i64 3, .int .i64 0, .string ⟨#[]⟩, .slice ad m cap]] w fun e w' => e = .returned (.bool b) ∧ Below w.heap.size w w' := by
  have := vmay_p 3 0 ⟨#[]⟩ (nmL m) ad cap w hr
  rw [nm_may m (by omega), hb, nm_len] at this
  exact this

theorem nm_put_p (m : Nat) (hm : m ≤ 6100) (b : Bool) (hb : decide (m ≤ 5999) = b) (ad : Option Addr) (cap : Nat) (w : World) (hl : LibAt w) (hr : RepS w ad (nmL m)) :
    Calls Tryd.prog 38 #[.agg #[.int .i64 3, .int .i64 0, .string ⟨#[]⟩, .slice ad m cap]] w fun e w' => (∃ P : ByteArray, e = .returned (.string P) ∧ P.toList.isEmpty = !b) ∧ Below w.heap.size w w' := by
  have := Put_p 3 0 ⟨#[]⟩ (nmL m) ad cap w hl.2.2.2 ⟨by decide, by decide⟩ (nm_facts m (by omega)).2.2.2 hr
  rw [nm_len] at this
  refine this.mono fun e w' h => ⟨⟨_, h.1, ?_⟩, h.2⟩
  unfold putS
  rw [nm_may m (by omega), hb]
  cases b with
  | true =>
    rw [if_pos rfl]
    exact isEmpty_ne (by have := nm_putV m (by omega); omega)
  | false =>
    rw [if_neg (by decide)]
    exact empty_none

set_option maxRecDepth 100000 in
set_option maxHeartbeats 4000000 in
theorem pouchDeep_in (d m : Nat) (hd : d ≤ 10) (hm : m ≤ 6100) (w : World) (hbg : BegunTrue) (h : LibAt w) :
    Calls Tryd.prog 12 #[.int .i64 d, .int .i64 m] w fun e w' => e = .returned (.bool true) ∧ Below w.heap.size w w' := by
  have HL := Lib.hid h
  have HB := Lib.hid (hbg w h)
  clear hbg h
  go_enter Tryd.func12, Tryd.ntmps12
  go_wp2_with fail
  refine HB.out.mono ?_
  rintro _ w0 ⟨rfl, hb0⟩
  have HB0 := Lib.hid hb0
  clear hb0
  go_wp2_with fail
  obtain ⟨V, hV⟩ : ∃ V, w0.heap.size = V := ⟨_, rfl⟩
  have HV := Lib.hid hV
  have hVw : w.heap.size ≤ V := by rw [← hV]; exact HB0.out.size
  rw [hV]
  clear hV
  go_loopw [7] (fun iv wr => DeepRel w V d iv wr) (fun i _ => d + 1 - (intOf i).toNat)
  case atStart =>
    refine ⟨0, none, 0, rfl, .inr rfl, Lib.hid ⟨⟨⟨?_, ?_, ?_, ?_⟩, ?_, ?_, ?_, ?_⟩, .inl rfl⟩, HB0.out.alloc HB0.out.size _⟩
    all_goals (rw [← HV.out]; first | (go_simp; done) | (go_simp; rfl))
  case round =>
    obtain ⟨j, ad, cap, rfl, hj, HVL, hB⟩ := hrel
    have hVr : V < wr.heap.size := HVL.out.1.lt
    have HBR := Lib.hid hB
    obtain ⟨⟨c0, c1, c2, c3⟩, z0, z1, z2, z3⟩ := HVL.out.1
    clear hB
    by_cases hlt : j + 1 < d
    · have hlt' : ((j + 1 : Nat) : Int) < (d : Int) := by omega
      go_wp2_with fail
      refine ⟨⟨j + 1, some ⟨wr.heap.size, 0, none⟩, 1, by go_num, by omega, Lib.hid (deep_step HVL.out ⟨⟨?_, ?_, ?_, ?_⟩, ?_, ?_, ?_, ?_⟩ (fun c hc hl => ?_) ?_), ?_⟩, ?_⟩
      · go_simp
      · go_simp
      · go_simp
      · go_simp
      · go_simp
      · go_simp
      · go_simp
      · go_simp
      · rw [heap_alloc_old _ _ (by simpa using hl), heap_setCell_other _ _ _ _ hc, heap_setCell_other _ _ _ _ hc, heap_setCell_other _ _ _ _ hc, heap_setCell_other _ _ _ _ hc]
      · have h := heap_alloc_new ((((wr.setCell ⟨V, 0, none⟩ (.int .i64 3)).setCell ⟨V, 1, none⟩ (.int .i64 0)).setCell ⟨V, 2, none⟩ (.string ⟨#[]⟩)).setCell ⟨V, 3, none⟩ (.slice (some ⟨wr.heap.size, 0, none⟩) 1 1)) (.cells #[.int .i64 (chK j), .int .i64 0, .string (chS j), .slice ad (chL j).len cap] 58)
        simpa using h
      · exact ((((HBR.out.setCell hVw _).setCell hVw _).setCell hVw _).setCell hVw _).alloc (by simp; exact HBR.out.size) _
      · simp [intOf]; omega
    · have hge : ¬ ((j + 1 : Nat) : Int) < (d : Int) := by omega
      obtain ⟨i0, hi, hz0, hz1, hz2⟩ := info_parts infoVal2
      have HI := Lib.hid hi
      have HJ : Hid (j ≤ 10 ∧ ((d : Int) ≤ 6 ↔ j + 1 ≤ 6)) := Lib.hid (by omega)
      clear hj hlt hi
      go_wp2_with fail
      clear hge
      obtain ⟨W, hW⟩ : ∃ W, wr.heap.size = W := ⟨_, rfl⟩
      obtain ⟨wz, hwz⟩ : ∃ wz, wr.alloc (.cells #[.int .i64 3, .int .i64 0, .string ⟨#[]⟩, .slice none 0 0] 58) = wz := ⟨_, rfl⟩
      have HVZ : Hid (VL wz V (fun b => V < b ∧ b < W) (chK j) 0 (chS j) (chL j) ad cap) := Lib.hid (by
        rw [← hwz]
        exact HVL.out.kept (heap_alloc_old _ _ hVr) (fun c hc hl => ⟨⟨hc, by omega⟩, heap_alloc_old _ _ hl⟩))
      have HWZ : Hid (V4 wz W 3 0 ⟨#[]⟩ (.slice none 0 0)) := Lib.hid (by
        rw [← hwz, ← hW]
        exact V4.new wr _ _ _ _ _)
      have HBZ : Hid (Below w.heap.size w wz) := Lib.hid (by rw [← hwz]; exact HBR.out.alloc HBR.out.size _)
      have hVW : V < W := by omega
      rw [hwz, hW]
      have HW : Hid (w.heap.size ≤ W) := Lib.hid (by omega)
      clear hwz hW c0 c1 c2 c3 z0 z1 z2 z3 HVL HBR hVr
      go_loopw [9] (fun iv wr => DeepRel2 w V W j m ad cap iv wr) (fun i _ => m - (intOf i).toNat)
      case atStart =>
        exact ⟨0, .slice none 0 0, [], rfl, by omega, HVZ, HWZ, Lib.hid (World.ownsRow_nil _ _ _ _), Lib.hid rfl, HBZ⟩
      case round =>
        obtain ⟨q, tv, xs, rfl, hq, HVL, HV4, HOWN, HX, HBR⟩ := hrel
        obtain ⟨la, lc, rfl⟩ := owns_shape4 HOWN.out
        obtain ⟨⟨d0, d1, d2, d3⟩, y0, y1, y2, y3⟩ := HV4.out
        by_cases hlt : q < m
        · have hlt' : (q : Int) < (m : Int) := by omega
          have hWr : W < wr.heap.size := HV4.out.lt
          go_wp2_with (at_builtin; refine wpList_append_own _ rfl (.tmp 43) (.tmp 46) 56 rfl (W + 1) 58 i0 _ 4 56 Tryd.underlying56 HI.out hz0 hz1 hz2 rfl (by decide) (.slice la q lc) q xs rfl (HOWN.out.alloc _) ⟨wr.heap.size, 0, none⟩ 1 1 [.int .i64 1, .int .i64 q, .string ⟨#[]⟩, .slice none 0 0] rfl rfl ?c1 ?c2 ?c3 ?c4 ?c5 ?_)
          case c1 =>
            intro b u hu
            rcases b with _ | _ | _ | _ | b
            · cases hu; go_simp
            · cases hu; go_simp
            · cases hu; go_simp
            · cases hu; go_simp
            · simp at hu
          case c2 =>
            intro u hu
            simp at hu
            rcases hu with rfl | rfl | rfl | rfl <;> rfl
          case c3 => unfold maxLen; omega
          case c4 => omega
          case c5 => simp; omega
          intro v' w3 hown3 hgrow3 _
          obtain ⟨va, vc, rfl⟩ := owns_shape4 hown3
          have hWn : ∀ b, b ≤ W → w3.heap[b]? = wr.heap[b]? := fun b hb => by
            rw [hgrow3.block b (by simp; omega) (fun e => by have := owns_base HOWN.out b (by first | exact e | exact e.symm); omega)]
            exact heap_alloc_old _ _ (by omega)
          have HV3 := Lib.hid (HVL.out.kept (hWn V (by omega)) (fun c hc _ => ⟨hc, hWn c (by omega)⟩))
          have HW3 := Lib.hid (HV4.out.kept (hWn W (by omega)))
          obtain ⟨⟨e0, e1, e2, e3⟩, x0, x1, x2, x3⟩ := HW3.out
          have HB3 := Lib.hid ((HBR.out.alloc HBR.out.size (.cells #[.int .i64 1, .int .i64 q, .string ⟨#[]⟩, .slice none 0 0] 58)).grown hgrow3 (by have := HBR.out.size; simp; omega) (fun b e => by have := owns_base HOWN.out b (by first | exact e | exact e.symm); have := HW.out; omega))
          have HO3 := Lib.hid hown3
          have hW3 : W < w3.heap.size := HW3.out.lt
          clear hown3 hgrow3 hWn d0 d1 d2 d3 y0 y1 y2 y3
          go_wp2_with fail
          have hset : ∀ b, b ≠ W → (w3.setCell ⟨W, 3, none⟩ (.slice va (q + 1) vc)).heap[b]? = w3.heap[b]? := fun b hb => heap_setCell_other _ _ _ _ hb
          refine ⟨⟨q + 1, .slice va (q + 1) vc, _, by go_num, by omega, Lib.hid (HV3.out.kept (hset V (by omega)) (fun c hc _ => ⟨hc, hset c (by omega)⟩)), Lib.hid ⟨⟨?_, ?_, ?_, ?_⟩, ?_, ?_, ?_, ?_⟩, Lib.hid (ownsRow_setCell_below HO3.out (by simp) _), Lib.hid ?_, Lib.hid (HB3.out.setCell (by have := HW.out; simpa using this) _)⟩, ?_⟩
          · go_simp
          · go_simp
          · go_simp
          · go_simp
          · go_simp
          · go_simp
          · go_simp
          · go_simp
          · exact RepX.snoc (l := .nil) (.inl rfl) _ _ (RepX.to (fun _ h _ => h.elim) _ _ HX.out)
          · simp [intOf]; omega
        · obtain rfl : q = m := by omega
          have hge : ¬ (q : Int) < (q : Int) := by omega
          have HG : Hid (RepS wr la (nmL q)) := Lib.hid (RepG.repS (owns_repG (A := fun _ => False) (A' := fun _ => True) (by rw [nm_len]; exact HOWN.out) HX.out (fun _ h => h.elim) (fun _ _ => trivial)))
          have HGV : Hid (RepS wr ad (chL j)) := Lib.hid HVL.out.2.repS
          have hvV : Hid (V4 wr V (chK j) 0 (chS j) (.slice ad (chL j).len cap)) := Lib.hid HVL.out.1
          obtain ⟨⟨g0, g1, g2, g3⟩, _⟩ := hvV.out
          have hj10 : j ≤ 10 := HJ.out.1
          clear hlt hq HOWN HX HVL d0 d1 d2 d3 y0 y1 y2 y3
          obtain ⟨bj, hbj⟩ : ∃ b, decide (j + 1 ≤ 6) = b := ⟨_, rfl⟩
          obtain ⟨bm, hbm⟩ : ∃ b, decide (q ≤ 5999) = b := ⟨_, rfl⟩
          have HM1 := Lib.hid (ch_may_p j hj10 bj hbj ad cap)
          have HP1 := Lib.hid (ch_put_p j hj10 bj hbj ad cap)
          have HM2 := Lib.hid (nm_may_p q hm bm hbm la lc)
          have HP2 := Lib.hid (nm_put_p q hm bm hbm la lc)
          cases bj with
          | true =>
            have b6 : (d : Int) ≤ 6 := HJ.out.2.2 (of_decide_eq_true hbj)
            clear hbj
            cases bm with
            | true =>
              have b9 : (q : Int) ≤ 5999 := by have := of_decide_eq_true hbm; omega
              clear hbm
              go_wp2_with fail
              refine (HM1.out _ HGV.out).mono ?_
              rintro _ w1 ⟨rfl, hb⟩
              have hv1 := hvV.out.below hb (Nat.le_refl _)
              obtain ⟨⟨f0, f1, f2, f3⟩, _⟩ := hv1
              have hw1 := Lib.hid (HV4.out.below hb (Nat.le_refl _))
              have hg1 := Lib.hid (HGV.out.below hb)
              have hn1 := Lib.hid (HG.out.below hb)
              have HB1 := Lib.hid (HBR.out.trans (hb.mono HBR.out.size))
              clear hb g0 g1 g2 g3
              go_wp2_with fail
              refine (HP1.out _ (HL.out.below HB1.out) hg1.out).mono ?_
              rintro _ w2 ⟨⟨P, rfl, hP⟩, hb⟩
              have hw2 := Lib.hid (hw1.out.below hb (Nat.le_refl _))
              have hn2 := Lib.hid (hn1.out.below hb)
              obtain ⟨⟨g0, g1, g2, g3⟩, _⟩ := hw2.out
              have HB2 := Lib.hid (HB1.out.trans (hb.mono HB1.out.size))
              clear hb f0 f1 f2 f3
              go_wp2_with fail
              refine (HM2.out _ hn2.out).mono ?_
              rintro _ w3 ⟨rfl, hb⟩
              have hw3 := Lib.hid (hw2.out.below hb (Nat.le_refl _))
              have hn3 := Lib.hid (hn2.out.below hb)
              obtain ⟨⟨f0, f1, f2, f3⟩, _⟩ := hw3.out
              have HB3 := Lib.hid (HB2.out.trans (hb.mono HB2.out.size))
              clear hb g0 g1 g2 g3
              go_wp2_with fail
              refine (HP2.out _ (HL.out.below HB3.out) hn3.out).mono ?_
              rintro _ w4 ⟨⟨P2, rfl, hP2⟩, hb⟩
              have HB4 := Lib.hid (HB3.out.trans (hb.mono HB3.out.size))
              clear hb f0 f1 f2 f3
              go_wp2_with fail
              go_ret
              exact ⟨rfl, HB4.out⟩
            | false =>
              have b9 : decide ((q : Int) ≤ 5999) = false := decide_eq_false (by have := of_decide_eq_false hbm; omega)
              clear hbm
              go_wp2_with fail
              refine (HM1.out _ HGV.out).mono ?_
              rintro _ w1 ⟨rfl, hb⟩
              have hv1 := hvV.out.below hb (Nat.le_refl _)
              obtain ⟨⟨f0, f1, f2, f3⟩, _⟩ := hv1
              have hw1 := Lib.hid (HV4.out.below hb (Nat.le_refl _))
              have hg1 := Lib.hid (HGV.out.below hb)
              have hn1 := Lib.hid (HG.out.below hb)
              have HB1 := Lib.hid (HBR.out.trans (hb.mono HBR.out.size))
              clear hb g0 g1 g2 g3
              go_wp2_with fail
              refine (HP1.out _ (HL.out.below HB1.out) hg1.out).mono ?_
              rintro _ w2 ⟨⟨P, rfl, hP⟩, hb⟩
              have hw2 := Lib.hid (hw1.out.below hb (Nat.le_refl _))
              have hn2 := Lib.hid (hn1.out.below hb)
              obtain ⟨⟨g0, g1, g2, g3⟩, _⟩ := hw2.out
              have HB2 := Lib.hid (HB1.out.trans (hb.mono HB1.out.size))
              clear hb f0 f1 f2 f3
              go_wp2_with fail
              refine (HM2.out _ hn2.out).mono ?_
              rintro _ w3 ⟨rfl, hb⟩
              have hw3 := Lib.hid (hw2.out.below hb (Nat.le_refl _))
              have hn3 := Lib.hid (hn2.out.below hb)
              obtain ⟨⟨f0, f1, f2, f3⟩, _⟩ := hw3.out
              have HB3 := Lib.hid (HB2.out.trans (hb.mono HB2.out.size))
              clear hb g0 g1 g2 g3
              go_wp2_with fail
              refine (HP2.out _ (HL.out.below HB3.out) hn3.out).mono ?_
              rintro _ w4 ⟨⟨P2, rfl, hP2⟩, hb⟩
              have HB4 := Lib.hid (HB3.out.trans (hb.mono HB3.out.size))
              clear hb f0 f1 f2 f3
              go_wp2_with fail
              go_ret
              exact ⟨rfl, HB4.out⟩
          | false =>
            have b6 : decide ((d : Int) ≤ 6) = false := decide_eq_false (fun h => of_decide_eq_false hbj (HJ.out.2.1 h))
            clear hbj
            cases bm with
            | true =>
              have b9 : (q : Int) ≤ 5999 := by have := of_decide_eq_true hbm; omega
              clear hbm
              go_wp2_with fail
              refine (HM1.out _ HGV.out).mono ?_
              rintro _ w1 ⟨rfl, hb⟩
              have hv1 := hvV.out.below hb (Nat.le_refl _)
              obtain ⟨⟨f0, f1, f2, f3⟩, _⟩ := hv1
              have hw1 := Lib.hid (HV4.out.below hb (Nat.le_refl _))
              have hg1 := Lib.hid (HGV.out.below hb)
              have hn1 := Lib.hid (HG.out.below hb)
              have HB1 := Lib.hid (HBR.out.trans (hb.mono HBR.out.size))
              clear hb g0 g1 g2 g3
              go_wp2_with fail
              refine (HP1.out _ (HL.out.below HB1.out) hg1.out).mono ?_
              rintro _ w2 ⟨⟨P, rfl, hP⟩, hb⟩
              have hw2 := Lib.hid (hw1.out.below hb (Nat.le_refl _))
              have hn2 := Lib.hid (hn1.out.below hb)
              obtain ⟨⟨g0, g1, g2, g3⟩, _⟩ := hw2.out
              have HB2 := Lib.hid (HB1.out.trans (hb.mono HB1.out.size))
              clear hb f0 f1 f2 f3
              go_wp2_with fail
              refine (HM2.out _ hn2.out).mono ?_
              rintro _ w3 ⟨rfl, hb⟩
              have hw3 := Lib.hid (hw2.out.below hb (Nat.le_refl _))
              have hn3 := Lib.hid (hn2.out.below hb)
              obtain ⟨⟨f0, f1, f2, f3⟩, _⟩ := hw3.out
              have HB3 := Lib.hid (HB2.out.trans (hb.mono HB2.out.size))
              clear hb g0 g1 g2 g3
              go_wp2_with fail
              refine (HP2.out _ (HL.out.below HB3.out) hn3.out).mono ?_
              rintro _ w4 ⟨⟨P2, rfl, hP2⟩, hb⟩
              have HB4 := Lib.hid (HB3.out.trans (hb.mono HB3.out.size))
              clear hb f0 f1 f2 f3
              go_wp2_with fail
              go_ret
              exact ⟨rfl, HB4.out⟩
            | false =>
              have b9 : decide ((q : Int) ≤ 5999) = false := decide_eq_false (by have := of_decide_eq_false hbm; omega)
              clear hbm
              go_wp2_with fail
              refine (HM1.out _ HGV.out).mono ?_
              rintro _ w1 ⟨rfl, hb⟩
              have hv1 := hvV.out.below hb (Nat.le_refl _)
              obtain ⟨⟨f0, f1, f2, f3⟩, _⟩ := hv1
              have hw1 := Lib.hid (HV4.out.below hb (Nat.le_refl _))
              have hg1 := Lib.hid (HGV.out.below hb)
              have hn1 := Lib.hid (HG.out.below hb)
              have HB1 := Lib.hid (HBR.out.trans (hb.mono HBR.out.size))
              clear hb g0 g1 g2 g3
              go_wp2_with fail
              refine (HP1.out _ (HL.out.below HB1.out) hg1.out).mono ?_
              rintro _ w2 ⟨⟨P, rfl, hP⟩, hb⟩
              have hw2 := Lib.hid (hw1.out.below hb (Nat.le_refl _))
              have hn2 := Lib.hid (hn1.out.below hb)
              obtain ⟨⟨g0, g1, g2, g3⟩, _⟩ := hw2.out
              have HB2 := Lib.hid (HB1.out.trans (hb.mono HB1.out.size))
              clear hb f0 f1 f2 f3
              go_wp2_with fail
              refine (HM2.out _ hn2.out).mono ?_
              rintro _ w3 ⟨rfl, hb⟩
              have hw3 := Lib.hid (hw2.out.below hb (Nat.le_refl _))
              have hn3 := Lib.hid (hn2.out.below hb)
              obtain ⟨⟨f0, f1, f2, f3⟩, _⟩ := hw3.out
              have HB3 := Lib.hid (HB2.out.trans (hb.mono HB2.out.size))
              clear hb g0 g1 g2 g3
              go_wp2_with fail
              refine (HP2.out _ (HL.out.below HB3.out) hn3.out).mono ?_
              rintro _ w4 ⟨⟨P2, rfl, hP2⟩, hb⟩
              have HB4 := Lib.hid (HB3.out.trans (hb.mono HB3.out.size))
              clear hb f0 f1 f2 f3
              go_wp2_with fail
              go_ret
              exact ⟨rfl, HB4.out⟩

set_option maxRecDepth 100000 in
set_option maxHeartbeats 1000000 in
theorem pouchDeep_out (d m : Int) (ho : d < 0 ∨ 10 < d ∨ m < 0 ∨ 6100 < m) (w : World) (hbg : BegunTrue) (h : LibAt w) :
    Calls Tryd.prog 12 #[.int .i64 d, .int .i64 m] w fun e w' => e = .returned (.bool true) ∧ Below w.heap.size w w' := by
  have HB := Lib.hid (hbg w h)
  clear hbg h
  by_cases h0 : d < 0
  · clear ho
    go_enter Tryd.func12, Tryd.ntmps12
    go_wp2_with fail
    refine HB.out.mono ?_
    rintro _ w0 ⟨rfl, hb0⟩
    go_wp2_with fail
    go_ret
    exact ⟨rfl, hb0⟩
  by_cases h1 : 10 < d
  · clear ho
    go_enter Tryd.func12, Tryd.ntmps12
    go_wp2_with fail
    refine HB.out.mono ?_
    rintro _ w0 ⟨rfl, hb0⟩
    go_wp2_with fail
    go_ret
    exact ⟨rfl, hb0⟩
  by_cases h2 : m < 0
  · clear ho
    go_enter Tryd.func12, Tryd.ntmps12
    go_wp2_with fail
    refine HB.out.mono ?_
    rintro _ w0 ⟨rfl, hb0⟩
    go_wp2_with fail
    go_ret
    exact ⟨rfl, hb0⟩
  · have h3 : 6100 < m := by omega
    clear ho
    go_enter Tryd.func12, Tryd.ntmps12
    go_wp2_with fail
    refine HB.out.mono ?_
    rintro _ w0 ⟨rfl, hb0⟩
    go_wp2_with fail
    go_ret
    exact ⟨rfl, hb0⟩

theorem pouchDeep_walk (d m : Int) (w : World) (hbg : BegunTrue) (h : LibAt w) :
    Calls Tryd.prog 12 #[.int .i64 d, .int .i64 m] w fun e w' => e = .returned (.bool true) ∧ Below w.heap.size w w' := by
  by_cases ho : d < 0 ∨ 10 < d ∨ m < 0 ∨ 6100 < m
  · exact pouchDeep_out d m ho w hbg h
  · obtain ⟨a, rfl⟩ : ∃ a : Nat, d = a := ⟨d.toNat, by omega⟩
    obtain ⟨b, rfl⟩ : ∃ b : Nat, m = b := ⟨m.toNat, by omega⟩
    exact pouchDeep_in a b (by omega) (by omega) w hbg h

end Go.Proofs.YtamennoehnigaaaDoor
