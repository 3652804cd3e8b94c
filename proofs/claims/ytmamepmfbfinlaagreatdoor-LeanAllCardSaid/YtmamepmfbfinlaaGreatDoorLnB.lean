/-
  The contracts of lean's choice, least (of nobody), pick, Pick; the reference's Pick.
-/
import Derived.Test.YtmamepmfbfinlaaGreatDoorLnA
import Derived.Test.YtmamepmfbfinlaaGreatDoorRosF
import Derived.Deep.AppendLies
namespace Go.Proofs.YtmamepmfbfinlaaGreatDoor
open Go.RowKit Go.Proofs.Cpl

/-- Those of the first k nodes that may be picked. -/
def choK (l : List Int) (nw : Int) (k : Nat) : List Int := (fiveI.take k).filter (chB l nw)

theorem choK_zero (l : List Int) (nw : Int) : choK l nw 0 = [] := rfl

theorem choK_five (l : List Int) (nw : Int) : choK l nw 5 = choI l nw := rfl

theorem choK_step (l : List Int) (nw : Int) (k : Nat) (hk : k < 5) : choK l nw (k + 1) = choK l nw k ++ (if chB l nw ((k : Int) + 1) then [(k : Int) + 1] else []) := by
  unfold choK
  have h : fiveI.take (k + 1) = fiveI.take k ++ [(k : Int) + 1] := by
    match k, hk with
    | 0, _ => rfl
    | 1, _ => rfl
    | 2, _ => rfl
    | 3, _ => rfl
    | 4, _ => rfl
  rw [h, List.filter_append]
  congr 1
  by_cases hc : chB l nw ((k : Int) + 1) = true
  · simp [hc]
  · simp [hc]

theorem choK_yes (l : List Int) (nw : Int) (k : Nat) (hk : k < 5) (h1 : (k : Int) + 1 ≠ nw) (h2 : hasI l ((k : Int) + 1) = true) : choK l nw (k + 1) = choK l nw k ++ [(k : Int) + 1] := by
  rw [choK_step l nw k hk, if_pos (by unfold chB; rw [decide_eq_false h1, h2]; rfl)]

theorem choK_no (l : List Int) (nw : Int) (k : Nat) (hk : k < 5) (h : (k : Int) + 1 = nw ∨ hasI l ((k : Int) + 1) = false) : choK l nw (k + 1) = choK l nw k := by
  rw [choK_step l nw k hk, if_neg, List.append_nil]
  unfold chB
  rcases h with h | h
  · rw [decide_eq_true h]; simp
  · rw [h]; simp

theorem choK_len (l : List Int) (nw : Int) (k : Nat) : (choK l nw k).length ≤ 5 := by
  unfold choK
  refine Nat.le_trans (List.length_filter_le _ _) ?_
  rw [List.length_take]
  exact Nat.min_le_right _ _

theorem choK_in (l : List Int) (nw : Int) (k : Nat) : ∀ x ∈ choK l nw k, 1 ≤ x ∧ x ≤ 5 := by
  intro x hx
  unfold choK at hx
  have := List.mem_of_mem_take (List.mem_filter.1 hx).1
  exact (five_mem x).1 this

theorem choI_in (l : List Int) (nw : Int) : ∀ x ∈ choI l nw, 1 ≤ x ∧ x ≤ 5 := choK_in l nw 5

theorem choI_nil (nw : Int) : choI [] nw = [] := by
  unfold choI
  rw [List.filter_eq_nil_iff]
  intro x _
  unfold chB
  rw [show hasI [] x = false from rfl]
  simp

theorem pk_mem (wt : Int → Int) (l : List Int) : l ≠ [] → (∀ x ∈ l, 1 ≤ x) → pkI wt l ∈ l := by
  refine snoc_ind (P := fun l => l ≠ [] → (∀ x ∈ l, 1 ≤ x) → pkI wt l ∈ l) (fun h _ => absurd rfl h) (fun l n ih _ hl => ?_) l
  rw [pkI_snoc]
  unfold pkS
  split
  · simp
  · rename_i hc
    by_cases h0 : l = []
    · subst h0
      exact absurd (.inl rfl) hc
    · exact List.mem_append_left _ (ih h0 (fun x hx => hl x (List.mem_append_left _ hx)))

/-- The greatest weight so far. -/
def mstI (wt : Int → Int) (l : List Int) : Int := if l = [] then -2 else wt (pkI wt l)

theorem snoc_ne (l : List Int) (x : Int) : l ++ [x] ≠ [] := by simp

theorem pk_more {wt : Int → Int} {l : List Int} {x : Int} (h : mstI wt l < wt x) : pkI wt (l ++ [x]) = x ∧ mstI wt (l ++ [x]) = wt x := by
  have e : pkI wt (l ++ [x]) = x := by
    rw [pkI_snoc]
    unfold pkS
    by_cases h0 : l = []
    · subst h0
      rw [if_pos (.inl rfl)]
    · unfold mstI at h
      rw [if_neg h0] at h
      rw [if_pos (.inr h)]
  refine ⟨e, ?_⟩
  unfold mstI
  rw [if_neg (snoc_ne l x), e]

theorem pk_less {wt : Int → Int} {l : List Int} {x : Int} (hl : ∀ y ∈ l, 1 ≤ y) (hx : -1 ≤ wt x) (h : ¬ mstI wt l < wt x) : pkI wt (l ++ [x]) = pkI wt l ∧ mstI wt (l ++ [x]) = mstI wt l := by
  by_cases h0 : l = []
  · unfold mstI at h
    rw [if_pos h0] at h
    omega
  · have hm := hl _ (pk_mem wt l h0 hl)
    unfold mstI at h
    rw [if_neg h0] at h
    have e : pkI wt (l ++ [x]) = pkI wt l := by
      rw [pkI_snoc]
      unfold pkS
      rw [if_neg (by omega)]
    refine ⟨e, ?_⟩
    unfold mstI
    rw [if_neg (snoc_ne l x), if_neg h0, e]

theorem take_more {l : List Int} {k : Nat} {x : Int} (h : l[k]? = some x) : l.take (k + 1) = l.take k ++ [x] := by
  rw [List.take_add_one, h]
  rfl

set_option maxRecDepth 100000 in
set_option maxHeartbeats 2000000 in
theorem lpick_p (v : Value) (l : List Int) (s : ByteArray) (hs : s.size ≤ maxLen) (hn : l.length ≤ 1000) (hl : ∀ x ∈ l, 1 ≤ x ∧ x ≤ 5) (w : World) (h : IsAt w v l) :
    Calls Tryz.prog 21 #[v, .string s] w fun e w' => e = .returned (.int .i64 (pkI (wtI (mkI s)) l)) ∧ Below w.heap.size w w' := by
  obtain ⟨ad, cap, rfl, _⟩ := h.shape
  have HM := Lib.hid (lmark_p s hs w)
  have hz := ok_mkI s
  generalize mkI s = z at *
  have HW := Lib.hid (weight_p z hz)
  have HH := Lib.hid h
  have HL := Lib.hid hl
  unfold gc at HM
  clear hz hs h hl
  go_enter Tryz.func21, Tryz.ntmps21
  go_wp2_with fail
  refine HM.out.mono ?_
  rintro _ w1 ⟨rfl, hb⟩
  have HB := Lib.hid hb
  have HV := Lib.hid (HH.out.below hb)
  clear hb HM HH
  go_wp2_with fail
  go_loopw [6, 7, 15] (fun b m i wr => ∃ k : Nat, k ≤ l.length ∧ b = .int .i64 (pkI (wtI z) (l.take k)) ∧ m = .int .i64 (mstI (wtI z) (l.take k)) ∧ i = .int .i64 k ∧ wr = w1) (fun _ _ i _ => l.length - (intOf i).toNat)
  case atStart => exact ⟨0, Nat.zero_le _, rfl, rfl, rfl, rfl⟩
  case round =>
    obtain ⟨k, hk, rfl, rfl, rfl, rfl⟩ := hrel
    by_cases hlt : k < l.length
    · have hltz : (k : Int) < (l.length : Int) := by omega
      obtain ⟨x, hx⟩ : ∃ x, l[k]? = some x := ⟨_, List.getElem?_eq_getElem hlt⟩
      obtain ⟨g, o, rfl, x0⟩ := HV.out.get hx
      have HX := Lib.hid (HL.out x (List.mem_of_getElem? hx))
      have HT := Lib.hid (take_more hx)
      have HLT : Hid (∀ y ∈ l.take k, 1 ≤ y) := Lib.hid (fun y hy => (HL.out y (List.mem_of_mem_take hy)).1)
      clear hx
      have HWx := Lib.hid (HW.out x)
      have HWR : Hid (0 ≤ wtI z x ∧ wtI z x ≤ 65520) := Lib.hid (wtI_in HX.out)
      by_cases hm : mstI (wtI z) (l.take k) < wtI z x
      · have HE := Lib.hid (pk_more hm)
        generalize hmm : mstI (wtI z) (l.take k) = M at *
        generalize hww : wtI z x = X at *
        clear hmm
        go_wp2_with fail
        refine (HWx.out _).mono ?_
        rintro _ _ ⟨rfl, rfl⟩
        go_wp2_with fail
        go_roundw
        case rel => exact ⟨k + 1, by omega, by rw [HT.out, HE.out.1], by rw [HT.out, HE.out.2], by go_num, by first | rfl | trivial⟩
        case measure => simp [intOf]; omega
      · have HE := Lib.hid (pk_less HLT.out (by have := HWR.out; omega) hm)
        generalize hmm : mstI (wtI z) (l.take k) = M at *
        generalize hww : wtI z x = X at *
        go_wp2_with fail
        refine (HWx.out _).mono ?_
        rintro _ _ ⟨rfl, rfl⟩
        go_wp2_with fail
        go_roundw
        case rel => exact ⟨k + 1, by omega, by rw [HT.out, HE.out.1], by rw [HT.out, HE.out.2], by go_num, by first | rfl | trivial⟩
        case measure => simp [intOf]; omega
    · have hltz : ¬ (k : Int) < (l.length : Int) := by omega
      have HT : Hid (l.take k = l) := Lib.hid (List.take_of_length_le (by omega))
      go_wp2_with fail
      go_ret
      exact ⟨by first | rfl | (rw [HT.out]; rfl), HB.out⟩

set_option maxRecDepth 100000 in
set_option maxHeartbeats 1000000 in
theorem least_nil (e nw : Int) (ad : Option Addr) (cap : Nat) (w : World) :
    Calls Tryz.prog 31 #[.agg #[.int .i64 e, .slice ad 0 cap, .int .i64 nw]] w fun r w' => r = .returned (.slice none 0 0) ∧ Below w.heap.size w w' := by
  have HB := Lib.hid (ro_below w e (.slice ad 0 cap) nw 24)
  have h1 := RC.new w e ad 0 cap nw 24
  go_enter Tryz.func31, Tryz.ntmps31
  go_wp2_with fail
  generalize (w.alloc (.cells #[.int .i64 e, .slice ad 0 cap, .int .i64 nw] 24)) = W at *
  obtain ⟨⟨c0, c1, c2⟩, _⟩ := h1
  go_wp2_with fail
  go_loopw [3, 9] (fun v3 i wr => v3 = .slice none 0 0 ∧ i = .int .i64 0 ∧ wr = W) (fun _ _ _ => 0)
  case atStart => exact ⟨rfl, rfl, rfl⟩
  case round =>
    obtain ⟨rfl, rfl, rfl⟩ := hrel
    go_wp2_with fail
    go_ret
    exact ⟨rfl, HB.out⟩

/-- One more number behind a slice of the call's own. -/
theorem IOwn.step {wr W3 : World} {B : Nat} {l : List Int} {la : Option Addr} {lc : Nat} {x : Int} {v' : Value} {c1 : Obj} (h : IOwn wr B (.slice la l.length lc) l) (hB : B ≤ wr.heap.size)
    (hown : W3.ownsRow B 3 1 v' (l.length + 1) (icells l ++ icells [x])) (hgrow : (wr.alloc c1).grownBy W3 (Value.slice la l.length lc).ownBlock) :
    ∃ la' lc', v' = .slice la' (l ++ [x]).length lc' ∧ IOwn W3 B (.slice la' (l ++ [x]).length lc') (l ++ [x]) ∧ Below B wr W3 := by
  rw [← icells_append] at hown
  have hL : (l ++ [x]).length = l.length + 1 := by simp
  have ho : IOwn W3 B v' (l ++ [x]) := by unfold IOwn; rw [hL]; exact hown
  obtain ⟨la', lc', rfl⟩ := ho.shape
  refine ⟨la', lc', rfl, ho, ((Below.refl B wr).alloc hB c1).grown hgrow (by simp; omega) (fun j hj => (h.lt hj).1)⟩

theorem int_new (w : World) (x : Int) : ∀ j u, (icells [x])[j]? = some u → (w.alloc (.cells #[.int .i64 x] 3)).cell? ((⟨w.heap.size, 0, none⟩ : Addr).add j) = some u :=
  World.news_of_block (B := w.heap.size) (cs := #[.int .i64 x]) (t := 3) (fr := (0, 0)) (heap_alloc_new w _)

set_option maxRecDepth 100000 in
set_option maxHeartbeats 4000000 in
theorem choice_p (e nw : Int) (v : Value) (l : List Int) (w : World) (h : IsAt w v l) (hn : l.length ≤ 1000) (hc : choI l nw ≠ [] ∨ l = []) :
    Calls Tryz.prog 22 #[.agg #[.int .i64 e, v, .int .i64 nw]] w fun r w' => ∃ ad cap, r = .returned (.slice ad (choI l nw).length cap) ∧ IOwn w' w.heap.size (.slice ad (choI l nw).length cap) (choI l nw) ∧ Below w.heap.size w w' := by
  obtain ⟨ad, cap, rfl, _⟩ := h.shape
  obtain ⟨i0, hi, hz0, hz1, hz2⟩ := int_info
  have HB0 := Lib.hid (ro_below w e (.slice ad l.length cap) nw 24)
  have h1 := RC.new w e ad l.length cap nw 24
  have HV := Lib.hid (h.below HB0.out)
  have HCC := Lib.hid hc
  clear h hc
  go_enter Tryz.func22, Tryz.ntmps22
  go_wp2_with fail
  generalize (w.alloc (.cells #[.int .i64 e, .slice ad l.length cap, .int .i64 nw] 24)) = W at *
  have HR : Hid (RC W w.heap.size e (.slice ad l.length cap) nw ∧ IsAt W (.slice ad l.length cap) l ∧ Below w.heap.size w W) := Lib.hid ⟨h1, HV.out, HB0.out⟩
  clear h1 HV HB0
  go_loopw [3, 4] (fun v3 v4 wr => ∃ (k : Nat) (la : Option Addr) (lc : Nat), k ≤ 5 ∧ v3 = .slice la (choK l nw k).length lc ∧ v4 = .int .i64 ((k : Int) + 1) ∧ Hid (IOwn wr W.heap.size (.slice la (choK l nw k).length lc) (choK l nw k) ∧ Below W.heap.size W wr)) (fun _ v4 _ => 6 - (intOf v4).toNat)
  case atStart => exact ⟨0, none, 0, by omega, rfl, rfl, Lib.hid ⟨IOwn.nil _ _, Below.refl _ _⟩⟩
  case round =>
    obtain ⟨k, la, lc, hk, rfl, rfl, HI⟩ := hrel
    have HQ : Hid (RC wr w.heap.size e (.slice ad l.length cap) nw ∧ IsAt wr (.slice ad l.length cap) l ∧ Below w.heap.size w wr) := Lib.hid ⟨HR.out.1.kept (HI.out.2.block _ HR.out.1.lt), HR.out.2.1.below HI.out.2, HR.out.2.2.trans (HI.out.2.mono HR.out.2.2.size)⟩
    obtain ⟨⟨c0, c1, c2⟩, _⟩ := HQ.out.1
    have hwr : IntKind.i64.wrap ((k : Int) + 1 + 1) = (((k + 1 : Nat) : Int) + 1) := by rw [IntWalk.i64_in _ (by omega)]; omega
    by_cases hlt : k < 5
    · have hltz : (k : Int) + 1 ≤ 5 := by omega
      by_cases hq : (k : Int) + 1 = nw
      · have HN := Lib.hid (choK_no l nw k hlt (.inl hq))
        have hqb : ((k : Int) + 1 != nw) = false := by rw [bne_eq_false_iff_eq]; exact hq
        clear hq
        go_wp2_with fail
        go_roundw
        case rel => exact ⟨k + 1, la, lc, by omega, by rw [HN.out], by first | rfl | go_num, by rw [HN.out]; exact HI⟩
        case measure => simp [intOf]; omega
      · have hqb : ((k : Int) + 1 != nw) = true := by rw [bne_iff_ne]; exact hq
        have HAS := has_p e nw ((k : Int) + 1) _ l wr HQ.out.2.1 (by omega)
        cases hh : hasI l ((k : Int) + 1) with
        | false =>
          have HN := Lib.hid (choK_no l nw k hlt (.inr hh))
          rw [hh] at HAS
          replace HAS := Lib.hid HAS
          clear hq hh
          go_wp2_with fail
          refine HAS.out.mono ?_
          rintro _ w2 ⟨rfl, hb2⟩
          have H2 : Hid (IOwn w2 W.heap.size (.slice la (choK l nw k).length lc) (choK l nw k) ∧ Below W.heap.size W w2) := Lib.hid ⟨HI.out.1.below hb2, HI.out.2.trans (hb2.mono HI.out.2.size)⟩
          clear hb2 c0 c1 c2
          go_wp2_with fail
          go_roundw
          case rel => exact ⟨k + 1, la, lc, by omega, by rw [HN.out], by first | rfl | go_num, by rw [HN.out]; exact H2⟩
          case measure => simp [intOf]; omega
        | true =>
          have HY := Lib.hid (choK_yes l nw k hlt hq hh)
          have hC5 := choK_len l nw k
          rw [hh] at HAS
          replace HAS := Lib.hid HAS
          clear hq hh
          go_wp2_with fail
          refine HAS.out.mono ?_
          rintro _ w2 ⟨rfl, hb2⟩
          have H2 : Hid (IOwn w2 W.heap.size (.slice la (choK l nw k).length lc) (choK l nw k) ∧ Below W.heap.size W w2) := Lib.hid ⟨HI.out.1.below hb2, HI.out.2.trans (hb2.mono HI.out.2.size)⟩
          clear hb2 c0 c1 c2 HAS HI HQ
          generalize choK l nw k = C at *
          have HOW : Hid ((w2.alloc (.cells #[.int .i64 ((k : Int) + 1)] 3)).ownsRow W.heap.size 3 1 (.slice la C.length lc) C.length (icells C)) := Lib.hid (H2.out.1.below ((Below.refl _ _).alloc (Nat.le_refl _) _))
          have HGE : Hid (W.heap.size ≤ (w2.alloc (.cells #[.int .i64 ((k : Int) + 1)] 3)).heap.size) := Lib.hid (by have := H2.out.2.size; simp; omega)
          have HNW := Lib.hid (int_new w2 ((k : Int) + 1))
          go_wp2_with (at_builtin; refine wpList_append_own_at _ rfl (.tmp 18) (.tmp 20) 22 rfl W.heap.size 3 i0 _ 1 8 Tryz.underlying22 hi hz0 hz1 hz2 rfl (by decide) (.slice la C.length lc) C.length (icells C) rfl HOW.out ⟨w2.heap.size, 0, none⟩ 1 1 (icells [(k : Int) + 1]) rfl rfl HNW.out (icells_one [(k : Int) + 1]) (by unfold maxLen; omega) (by omega) HGE.out ?_)
          intro v' w3 hown3 hgrow3 _ hloc3
          obtain ⟨la3, lc3, rfl, ho3, hb3⟩ := H2.out.1.step H2.out.2.size hown3 hgrow3
          rw [← HY.out] at ho3
          have HY3 := Lib.hid HY.out
          rw [← HY.out]
          have HE : Hid (IOwn w3 W.heap.size (.slice la3 (choK l nw (k + 1)).length lc3) (choK l nw (k + 1)) ∧ Below W.heap.size W w3) := Lib.hid ⟨ho3, H2.out.2.trans hb3⟩
          clear hown3 hgrow3 hloc3 ho3 hb3 HOW HGE HNW HY HY3
          go_wp2_with fail
          go_roundw
          case rel => exact ⟨k + 1, la3, lc3, by omega, by first | rfl | trivial, by first | rfl | go_num, HE⟩
          case measure => simp [intOf]; omega
    · obtain rfl : k = 5 := by omega
      rw [choK_five] at HI ⊢
      have HF : Hid (IOwn wr w.heap.size (.slice la (choI l nw).length lc) (choI l nw)) := Lib.hid (HI.out.1.mono HR.out.2.2.size)
      by_cases hz : choI l nw = []
      · rw [hz] at HF ⊢
        have hl0 : l = [] := by
          rcases HCC.out with h | h
          · exact absurd hz h
          · exact h
        subst hl0
        clear hz hn
        simp only [List.length_nil] at *
        have HL := Lib.hid (least_nil e nw ad cap wr)
        go_wp2_with fail
        refine HL.out.mono ?_
        rintro _ w2 ⟨rfl, hb2⟩
        have HE := Lib.hid (HQ.out.2.2.trans (hb2.mono HQ.out.2.2.size))
        clear hb2
        go_wp2_with fail
        go_ret
        exact ⟨none, 0, by rw [choI_nil]; rfl, by rw [choI_nil]; exact IOwn.nil _ _, HE.out⟩
      · have hpos : (0 : Int) < ((choI l nw).length : Int) := by
          have : (choI l nw).length ≠ 0 := fun h => hz (List.length_eq_zero_iff.1 h)
          omega
        clear hz
        go_wp2_with fail
        go_ret
        exact ⟨_, _, rfl, HF.out, HQ.out.2.2⟩

set_option maxRecDepth 100000 in
set_option maxHeartbeats 1000000 in
theorem Pick_p (e nw : Int) (v : Value) (l : List Int) (s : ByteArray) (hs : s.size ≤ maxLen) (w : World) (h : IsAt w v l) (hn : l.length ≤ 1000) (hc : choI l nw ≠ [] ∨ l = []) :
    Calls Tryz.prog 13 #[.agg #[.int .i64 e, v, .int .i64 nw], .string s] w fun r w' => r = .returned (.int .i64 (pickI (mkI s) l nw)) ∧ Below w.heap.size w w' := by
  obtain ⟨ad, cap, rfl, _⟩ := h.shape
  have HB := Lib.hid (ro_below w e (.slice ad l.length cap) nw 24)
  have h1 := RC.new w e ad l.length cap nw 24
  have HCH := Lib.hid (choice_p e nw _ l _ (h.below HB.out) hn hc)
  have HS := Lib.hid hs
  clear h hn hc hs
  go_enter Tryz.func13, Tryz.ntmps13
  go_wp2_with fail
  generalize (w.alloc (.cells #[.int .i64 e, .slice ad l.length cap, .int .i64 nw] 24)) = W at *
  obtain ⟨⟨c0, c1, c2⟩, _⟩ := h1
  go_wp2_with fail
  refine HCH.out.mono ?_
  rintro _ w2 ⟨a2, l2, rfl, ho, hb2⟩
  have HP := Lib.hid (lpick_p _ (choI l nw) s HS.out (by have := cho_len l nw; omega) (choI_in l nw) w2 ho.at)
  have HE := Lib.hid (HB.out.trans (hb2.mono HB.out.size))
  clear ho hb2 c0 c1 c2 HCH
  go_wp2_with fail
  refine HP.out.mono ?_
  rintro _ w3 ⟨rfl, hb3⟩
  have HE3 := Lib.hid (HE.out.trans (hb3.mono HE.out.size))
  clear hb3
  go_wp2_with fail
  go_ret
  exact ⟨rfl, HE3.out⟩

end Go.Proofs.YtmamepmfbfinlaaGreatDoor
