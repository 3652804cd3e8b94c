/-
  A chain in a box whose list is made one by one; chains out of any numbers.
-/
import Derived.Test.YtmamepmfbfinlaaGreatDoorLnD
import Derived.Test.YtmamepmfbfinlaaGreatDoorRosM
namespace Go.Proofs.YtmamepmfbfinlaaGreatDoor
open Go.RowKit Go.Proofs.Cpl

/-- A chain's box at B whose list is made one by one, in blocks from D on. -/
structure Rb (w : World) (B D : Nat) (e nw : Int) (l : List Int) (la : Option Addr) (lc : Nat) (wr : World) : Prop where
  box : RC wr B e (.slice la l.length lc) nw
  own : IOwn wr D (.slice la l.length lc) l
  lt : B < D
  dl : D ≤ wr.heap.size
  bl : Below w.heap.size w wr
  ge : w.heap.size ≤ B

theorem rc_set1 {w : World} {b : Nat} {e n : Int} {v : Value} (h : RC w b e v n) (ad : Option Addr) (m c : Nat) : RC (w.setCell ⟨b, 1, none⟩ (.slice ad m c)) b e (.slice ad m c) n := by
  obtain ⟨⟨h0, h1, h2⟩, f0, f1, f2⟩ := h
  refine ⟨⟨?_, ?_, ?_⟩, ?_, ?_, ?_⟩ <;> go_simp

theorem Rb.step {w wr W3 : World} {B D : Nat} {e nw : Int} {l : List Int} {la : Option Addr} {lc : Nat} {x : Int} {v' : Value} (h : Rb w B D e nw l la lc wr) {c1 : Obj}
    (hown : W3.ownsRow D 3 1 v' (l.length + 1) (icells l ++ icells [x])) (hgrow : (wr.alloc c1).grownBy W3 (Value.slice la l.length lc).ownBlock) :
    RC W3 B e (.slice la l.length lc) nw ∧ ∃ la' lc', v' = .slice la' (l ++ [x]).length lc' ∧ Rb w B D e nw (l ++ [x]) la' lc' (W3.setCell ⟨B, 1, none⟩ v') ∧ ∀ g, g < D → g ≠ B → (W3.setCell ⟨B, 1, none⟩ v').heap[g]? = wr.heap[g]? := by
  obtain ⟨la', lc', rfl, ho, hb⟩ := h.own.step h.dl hown hgrow
  have hc : RC W3 B e (.slice la l.length lc) nw := h.box.kept (hb.block B h.lt)
  have hlt := h.lt
  have hge := h.ge
  refine ⟨hc, la', lc', rfl, ⟨rc_set1 hc _ _ _, ho.kept (fun j hj => Below.heap_setCell _ _ _ _ (by have := (ho.lt hj).1; simp; omega)), h.lt, ?_, ?_, h.ge⟩, fun g hg hne => ?_⟩
  · have := hb.size
    have := h.dl
    simp; omega
  · exact (h.bl.trans (hb.mono (by omega))).setCell (p := ⟨B, 1, none⟩) (by simpa using hge) _
  · rw [Below.heap_setCell _ _ _ _ (by simpa using hne), hb.block g hg]

theorem Rb.below {w wr W3 : World} {B D : Nat} {e nw : Int} {l : List Int} {la : Option Addr} {lc : Nat} (h : Rb w B D e nw l la lc wr) (hb : Below wr.heap.size wr W3) : Rb w B D e nw l la lc W3 :=
  ⟨h.box.kept (hb.block _ h.box.lt), h.own.below hb, h.lt, Nat.le_trans h.dl hb.size, h.bl.trans (hb.mono h.bl.size), h.ge⟩

/-- A node out of any number. -/
def digI (x : Int) : Int := 1 + (x.tmod 5 + 5).tmod 5

theorem dig_in (x : Int) : 1 ≤ digI x ∧ digI x ≤ 5 := by
  unfold digI
  have g1 := Int.tmod_lt_of_pos x (show (0 : Int) < 5 by decide)
  have g2 := Int.lt_tmod_of_pos x (show (0 : Int) < 5 by decide)
  have g3 := Int.tmod_lt_of_pos (x.tmod 5 + 5) (show (0 : Int) < 5 by decide)
  have g4 := Int.tmod_nonneg (a := x.tmod 5 + 5) 5 (by omega)
  omega

def stpI (l : List Int) (x : Int) : List Int := if hasI l (digI x) then l else l ++ [digI x]

/-- The chain out of the first numbers. -/
def bldI (cs : Nat → Int) : Nat → List Int
  | 0 => []
  | n + 1 => stpI (bldI cs n) (cs n)

theorem bld_yes {cs : Nat → Int} {n : Nat} (h : hasI (bldI cs n) (digI (cs n)) = true) : bldI cs (n + 1) = bldI cs n := by
  show stpI _ _ = _
  unfold stpI
  rw [if_pos h]

theorem bld_no {cs : Nat → Int} {n : Nat} (h : hasI (bldI cs n) (digI (cs n)) = false) : bldI cs (n + 1) = bldI cs n ++ [digI (cs n)] := by
  show stpI _ _ = _
  unfold stpI
  rw [if_neg (by rw [h]; decide)]

theorem bld_ok (cs : Nat → Int) : ∀ n, (∀ x ∈ bldI cs n, 1 ≤ x ∧ x ≤ 5) ∧ (bldI cs n).Pairwise (· ≠ ·)
  | 0 => ⟨fun x hx => (by cases hx), List.Pairwise.nil⟩
  | n + 1 => by
    obtain ⟨h1, h2⟩ := bld_ok cs n
    cases hh : hasI (bldI cs n) (digI (cs n)) with
    | true => rw [bld_yes hh]; exact ⟨h1, h2⟩
    | false =>
      rw [bld_no hh]
      refine ⟨fun x hx => ?_, ?_⟩
      · rcases List.mem_append.1 hx with hx | hx
        · exact h1 x hx
        · obtain rfl : x = digI (cs n) := by simpa using hx
          exact dig_in _
      · rw [List.pairwise_append]
        refine ⟨h2, List.pairwise_singleton _ _, fun a ha c hc => ?_⟩
        obtain rfl : c = digI (cs n) := by simpa using hc
        rintro rfl
        exact (has_mem' _ _).1 hh ha

theorem bld_len (cs : Nat → Int) (n : Nat) : (bldI cs n).length ≤ 5 := by
  obtain ⟨h1, h2⟩ := bld_ok cs n
  exact pigeon 5 _ h2 h1

theorem bld_may {cs : Nat → Int} {n : Nat} {e : Int} (he : 1 ≤ e ∧ e ≤ 1099511627776) (h : 1 ≤ (bldI cs n).length) : mayR ⟨e, bldI cs n, 0⟩ = true := by
  obtain ⟨h1, h2⟩ := bld_ok cs n
  refine mayR_of he ((mayNs_iff _).2 ⟨⟨h, bld_len cs n⟩, h1, h2⟩) ?_
  unfold mayW
  simp

/-- One less. -/
theorem drop_at {l : List Int} {k : Nat} {n : Int} (h : mayR ⟨1, l, 0⟩ = true) (hk : l[k]? = some n) (h2 : 2 ≤ l.length) : dropR ⟨1, l, 0⟩ n = (⟨2, l.take k ++ l.drop (k + 1), 0⟩, true) ∧ mayR ⟨2, l.take k ++ l.drop (k + 1), 0⟩ = true := by
  have hns := (mayR_ns h).1
  have hkl : k < l.length := (List.getElem?_eq_some_iff.1 hk).1
  obtain ⟨a, b, _, hix⟩ := mayNs_at hns hk
  have hx : ixN l n = some k := by
    rcases ixI_cases l n with ⟨h1, _⟩ | ⟨j, _, h1, h3⟩
    · omega
    · rw [h3]; congr 1; omega
  have hm : mayR ⟨2, l.take k ++ l.drop (k + 1), 0⟩ = true := by
    refine mayR_of (e := 2) ⟨by omega, by omega⟩ (mayNs_del hns hkl h2) ?_
    unfold mayW
    simp
  refine ⟨?_, hm⟩
  unfold dropR
  rw [show (⟨1, l, 0⟩ : Ro).l = l from rfl, hx]
  dsimp only
  rw [h, if_pos rfl, if_neg (by omega)]
  show chkR ⟨2, l.take k ++ l.drop (k + 1), 0⟩ = _
  unfold chkR
  rw [if_pos hm]

theorem cho_ne {l : List Int} {nw x : Int} (h : x ∈ choI l nw) : choI l nw ≠ [] ∨ l = [] := .inl (fun e => by rw [e] at h; cases h)

theorem cho_may {e : Int} {l : List Int} {nw : Int} (h : mayR ⟨e, l, nw⟩ = true) : choI l nw ≠ [] ∨ l = [] := by
  obtain ⟨x, hx⟩ := cho_some h
  exact cho_ne hx

end Go.Proofs.YtmamepmfbfinlaaGreatDoor
