/-
  Lists of nodes: what may be, where one stands, how they lie in memory; the contracts of slices.Index, Contains, Equal at them.
-/
import Derived.Test.YtmamepmfbfinlaaGreatDoorProg
import Derived.WalkKit
import Derived.WalkSpells
import Derived.WalkLawsBesides
import Derived.Lib.Hide
import Derived.Maps.AppendAt
import Derived.Lib.SliceRun
import Derived.Lib.QuietBelow
import Derived.Deep.LoopGhost
namespace Go.Proofs.YtmamepmfbfinlaaGreatDoor
open Go.RowKit

/-- The place of the first that is n. -/
def ixN (l : List Int) (n : Int) : Option Nat := l.findIdx? fun x => x == n

def ixI (l : List Int) (n : Int) : Int := match ixN l n with | some k => (k : Int) | none => -1

def hasI (l : List Int) (n : Int) : Bool := decide (0 ≤ ixI l n)

theorem ixN_hit {l : List Int} {n : Int} {k : Nat} {x : Int} (hx : l[k]? = some x) (hn : x = n) (hb : ∀ j y, j < k → l[j]? = some y → y ≠ n) : ixN l n = some k := by
  have hk : k < l.length := (List.getElem?_eq_some_iff.1 hx).1
  refine List.findIdx?_eq_some_iff_getElem.2 ⟨hk, ?_, fun j hj => ?_⟩
  · have : l[k] = x := (List.getElem?_eq_some_iff.1 hx).2
    rw [this]; simpa using hn
  · have := hb j l[j] hj (List.getElem?_eq_getElem (by omega))
    simpa using this

theorem ixN_miss {l : List Int} {n : Int} (hb : ∀ j y, j < l.length → l[j]? = some y → y ≠ n) : ixN l n = none := by
  unfold ixN
  rw [List.findIdx?_eq_none_iff]
  intro x hx
  obtain ⟨j, hj, rfl⟩ := List.getElem_of_mem hx
  have := hb j l[j] hj (List.getElem?_eq_getElem hj)
  simpa using this

theorem ixN_lt {l : List Int} {n : Int} {k : Nat} (h : ixN l n = some k) : k < l.length := (List.findIdx?_eq_some_iff_getElem.1 h).1

theorem ixI_cases (l : List Int) (n : Int) : (ixI l n = -1 ∧ ixN l n = none) ∨ ∃ k : Nat, k < l.length ∧ ixI l n = (k : Int) ∧ ixN l n = some k := by
  unfold ixI
  cases h : ixN l n with
  | none => exact .inl ⟨rfl, rfl⟩
  | some k => exact .inr ⟨k, ixN_lt h, rfl, rfl⟩

theorem ixI_lt (l : List Int) (n : Int) : -1 ≤ ixI l n ∧ ixI l n < l.length := by
  rcases ixI_cases l n with ⟨h, _⟩ | ⟨k, h1, h2, _⟩
  · omega
  · omega

/-- Whether the one at a place may be: a node, and none of those ahead of it. -/
def goodK (l : List Int) (k : Nat) : Bool := match l[k]? with | some n => decide (1 ≤ n ∧ n ≤ 5) && !hasI (l.take k) n | none => true

def mayNs (l : List Int) : Bool := decide (1 ≤ l.length ∧ l.length ≤ 5) && (List.range l.length).all (goodK l)

/-- A chain. -/
structure Ro where
  ep : Int
  l : List Int
  nw : Int

def Ro.zero : Ro := ⟨0, [], 0⟩

/-- The one at a place, or 0. -/
def getI (l : List Int) (k : Int) : Int := if 0 ≤ k ∧ k < l.length then l.getD k.toNat 0 else 0

def tailI (l : List Int) : Int := getI l (l.length - 1)

def mayW (l : List Int) (n : Int) : Bool := decide (n = 0) || (decide (1 < l.length) && decide (n = tailI l))

def mayR (r : Ro) : Bool := decide (1 ≤ r.ep ∧ r.ep ≤ 1099511627776) && (mayNs r.l && mayW r.l r.nw)

def chkR (r : Ro) : Ro × Bool := if mayR r then (r, true) else (Ro.zero, false)

def addR (r : Ro) (n : Int) : Ro × Bool := if mayR r && decide (r.nw = 0) then chkR ⟨r.ep + 1, r.l ++ [n], n⟩ else (Ro.zero, false)

def dropR (r : Ro) (n : Int) : Ro × Bool := match ixN r.l n with
  | none => (Ro.zero, false)
  | some k => if mayR r then chkR ⟨r.ep + 1, r.l.take k ++ r.l.drop (k + 1), if r.nw = n then 0 else r.nw⟩ else (Ro.zero, false)

/-- Numbers lie in memory, from a place on. -/
def IAt (w : World) (g o : Nat) (l : List Int) : Prop := ∀ j x, l[j]? = some x → w.cell? ⟨g, o + j, none⟩ = some (.int .i64 x)

theorem IAt.kept {w w' : World} {g o : Nat} {l : List Int} (h : IAt w g o l) (e : w'.heap[g]? = w.heap[g]?) : IAt w' g o l := by
  intro j v hv
  have c (i : Nat) : w'.cell? ⟨g, i, none⟩ = w.cell? ⟨g, i, none⟩ := World.cell?_of_block (a := ⟨g, i, none⟩) e
  rw [c]
  exact h j v hv

/-- A slice of numbers that may be read. -/
def IsAt (w : World) (v : Value) (l : List Int) : Prop :=
  (v = .slice none 0 0 ∧ l = []) ∨ ∃ g o cap, v = .slice (some ⟨g, o, none⟩) l.length cap ∧ l.length ≤ cap ∧ cap ≤ maxLen ∧ g < w.heap.size ∧ IAt w g o l

theorem IsAt.kept {w w' : World} {v : Value} {l : List Int} (h : IsAt w v l) (hs : w.heap.size ≤ w'.heap.size) (hk : ∀ g, v.ownBlock = some g → w'.heap[g]? = w.heap[g]?) : IsAt w' v l := by
  rcases h with h | ⟨g, o, cap, rfl, h1, h2, h3, h4⟩
  · exact .inl h
  · exact .inr ⟨g, o, cap, rfl, h1, h2, by omega, h4.kept (hk g rfl)⟩

theorem IsAt.below {w w' : World} {v : Value} {l : List Int} (h : IsAt w v l) (hb : Below w.heap.size w w') : IsAt w' v l := by
  rcases h with h | ⟨g, o, cap, rfl, h1, h2, h3, h4⟩
  · exact .inl h
  · exact .inr ⟨g, o, cap, rfl, h1, h2, Nat.lt_of_lt_of_le h3 hb.size, h4.kept (hb.block g h3)⟩

theorem IsAt.shape {w : World} {v : Value} {l : List Int} (h : IsAt w v l) : ∃ ad cap, v = .slice ad l.length cap ∧ l.length ≤ cap := by
  rcases h with ⟨rfl, rfl⟩ | ⟨g, o, cap, rfl, h1, _⟩
  · exact ⟨_, _, rfl, Nat.le_refl _⟩
  · exact ⟨_, _, rfl, h1⟩

theorem IsAt.get {w : World} {ad : Option Addr} {n c : Nat} {l : List Int} (h : IsAt w (.slice ad n c) l) {k : Nat} {x : Int} (hx : l[k]? = some x) : ∃ g o, ad = some ⟨g, o, none⟩ ∧ w.cell? ⟨g, o + k, none⟩ = some (.int .i64 x) := by
  rcases h with ⟨_, rfl⟩ | ⟨g, o, cap, e, _, _, _, h4⟩
  · simp at hx
  · simp only [Value.slice.injEq] at e
    exact ⟨g, o, e.1, h4 k x hx⟩

def icells (l : List Int) : List Value := l.map fun x => Value.int .i64 x

theorem icells_length (l : List Int) : (icells l).length = l.length * 1 := by unfold icells; simp

theorem icells_append (l m : List Int) : icells (l ++ m) = icells l ++ icells m := by unfold icells; simp

theorem icells_one (l : List Int) : ∀ u ∈ icells l, u.oneCell' = true := by
  intro u hu
  unfold icells at hu
  obtain ⟨x, _, rfl⟩ := List.mem_map.1 hu
  rfl

theorem icells_get {l : List Int} {j : Nat} {u : Value} (h : (icells l)[j]? = some u) : ∃ x, l[j]? = some x ∧ u = .int .i64 x := by
  unfold icells at h
  rw [List.getElem?_map] at h
  cases hx : l[j]? with
  | none => rw [hx] at h; cases h
  | some x => rw [hx] at h; cases h; exact ⟨x, rfl, rfl⟩

theorem icells_at {l : List Int} {j : Nat} {x : Int} (h : l[j]? = some x) : (icells l)[j]? = some (.int .i64 x) := by
  unfold icells
  rw [List.getElem?_map, h]
  rfl

theorem IAt.cells {w : World} {g o : Nat} {l : List Int} (h : IAt w g o l) : ∀ j u, (icells l)[j]? = some u → w.cell? ((⟨g, o, none⟩ : Addr).add j) = some u := by
  intro j u hj
  obtain ⟨x, hx, rfl⟩ := icells_get hj
  rw [Addr.add_lit]
  exact h j x hx

/-- A slice of numbers in a row of the call's own. -/
def IOwn (w : World) (B : Nat) (v : Value) (l : List Int) : Prop := w.ownsRow B 3 1 v l.length (icells l)

theorem IOwn.nil (w : World) (B : Nat) : IOwn w B (.slice none 0 0) [] := World.ownsRow_nil _ _ _ _

theorem IOwn.at {w : World} {B : Nat} {v : Value} {l : List Int} (h : IOwn w B v l) : IsAt w v l := by
  rcases h.2 with ⟨rfl, h0⟩ | ⟨g, cap, cur, rfl, hb, hg, h1, h2, h3, h4⟩
  · exact .inl ⟨rfl, List.length_eq_zero_iff.1 h0⟩
  · have hlt : g < w.heap.size := by
      rcases Nat.lt_or_ge g w.heap.size with h | h
      · exact h
      · rw [Array.getElem?_eq_none h] at hg
        cases hg
    refine .inr ⟨g, 0, cap, rfl, h1, h2, hlt, fun j x hx => ?_⟩
    have hc := World.ownsRow.cells h (g := g) rfl
    have := hc j _ (icells_at hx)
    rw [Addr.add_lit] at this
    exact this

theorem IOwn.shape {w : World} {B : Nat} {v : Value} {l : List Int} (h : IOwn w B v l) : ∃ ad cap, v = .slice ad l.length cap := by
  obtain ⟨ad, cap, h, _⟩ := h.at.shape
  exact ⟨ad, cap, h⟩

theorem IOwn.lt {w : World} {B : Nat} {v : Value} {l : List Int} (h : IOwn w B v l) {g : Nat} (hg : v.ownBlock = some g) : B ≤ g ∧ g < w.heap.size := by
  rcases h.2 with ⟨rfl, _⟩ | ⟨g', cap, cur, rfl, hb, hh, _⟩
  · cases hg
  · cases hg
    refine ⟨hb, ?_⟩
    rcases Nat.lt_or_ge g' w.heap.size with h | h
    · exact h
    · rw [Array.getElem?_eq_none h] at hh
      cases hh

theorem IOwn.kept {w w' : World} {B : Nat} {v : Value} {l : List Int} (h : IOwn w B v l) (hk : ∀ g, v.ownBlock = some g → w'.heap[g]? = w.heap[g]?) : IOwn w' B v l := by
  obtain ⟨h1, h2⟩ := h
  refine ⟨h1, ?_⟩
  rcases h2 with h2 | ⟨g, cap, cur, hv, hg, hh, r⟩
  · exact .inl h2
  · exact .inr ⟨g, cap, cur, hv, hg, by rw [hk g (by rw [hv]; rfl)]; exact hh, r⟩

theorem IOwn.below {w w' : World} {B : Nat} {v : Value} {l : List Int} (h : IOwn w B v l) (hb : Below w.heap.size w w') : IOwn w' B v l := h.kept fun g hg => hb.block g (h.lt hg).2

theorem IOwn.mono {w : World} {B B' : Nat} {v : Value} {l : List Int} (h : IOwn w B v l) (hB : B' ≤ B) : IOwn w B' v l := by
  obtain ⟨h1, h2⟩ := h
  refine ⟨h1, ?_⟩
  rcases h2 with h2 | ⟨g, cap, cur, hv, hg, r⟩
  · exact .inl h2
  · exact .inr ⟨g, cap, cur, hv, by omega, r⟩

/-- A chain's cells in a block of its own, which may be written. -/
def RC (w : World) (b : Nat) (e : Int) (v : Value) (n : Int) : Prop :=
  (w.cell? ⟨b, 0, none⟩ = some (.int .i64 e) ∧ w.cell? ⟨b, 1, none⟩ = some v ∧ w.cell? ⟨b, 2, none⟩ = some (.int .i64 n)) ∧ w.frozen? ⟨b, 0, none⟩ = false ∧ w.frozen? ⟨b, 1, none⟩ = false ∧ w.frozen? ⟨b, 2, none⟩ = false

theorem RC.lt {w : World} {b : Nat} {e : Int} {v : Value} {n : Int} (h : RC w b e v n) : b < w.heap.size := World.block_lt_of_cell? w _ h.1.1

theorem RC.kept {w w' : World} {b : Nat} {e : Int} {v : Value} {n : Int} (h : RC w b e v n) (hh : w'.heap[b]? = w.heap[b]?) : RC w' b e v n := by
  obtain ⟨⟨h0, h1, h2⟩, f0, f1, f2⟩ := h
  have c (o : Nat) : w'.cell? ⟨b, o, none⟩ = w.cell? ⟨b, o, none⟩ := World.cell?_of_block (a := ⟨b, o, none⟩) hh
  have f (o : Nat) : w'.frozen? ⟨b, o, none⟩ = w.frozen? ⟨b, o, none⟩ := World.frozen?_of_block (a := ⟨b, o, none⟩) hh
  exact ⟨⟨by rw [c]; exact h0, by rw [c]; exact h1, by rw [c]; exact h2⟩, by rw [f]; exact f0, by rw [f]; exact f1, by rw [f]; exact f2⟩

theorem RC.below {w w' : World} {b : Nat} {e : Int} {v : Value} {n : Int} (h : RC w b e v n) (hb : Below w.heap.size w w') : RC w' b e v n := h.kept (hb.block b h.lt)

theorem RC.new (w : World) (e : Int) (ad : Option Addr) (k c : Nat) (n : Int) (t : TypeId) : RC (w.alloc (.cells #[.int .i64 e, .slice ad k c, .int .i64 n] t)) w.heap.size e (.slice ad k c) n := by
  refine ⟨⟨?_, ?_, ?_⟩, ?_, ?_, ?_⟩ <;> go_simp

theorem RC.alloc {w : World} {b : Nat} {e : Int} {v : Value} {n : Int} (h : RC w b e v n) (o : Obj) : RC (w.alloc o) b e v n := h.below ((Below.refl _ w).alloc (Nat.le_refl _) _)

theorem intInfo0 : (Tryz.prog.info? 3).map (fun i => (i.zero, i.size, i.bytes)) = some (some (.int .i64 0), 1, 8) := by kernel_rfl

theorem int_info : ∃ i0 : TypeInfo, Tryz.prog.info? 3 = some i0 ∧ i0.zero = some (.int .i64 0) ∧ i0.size = 1 ∧ i0.bytes = 8 := by
  have h := intInfo0
  cases hi : Tryz.prog.info? 3 with
  | none => rw [hi] at h; cases h
  | some i =>
    rw [hi] at h
    simp only [Option.map_some, Option.some.injEq, Prod.mk.injEq] at h
    exact ⟨i, rfl, h⟩

set_option maxRecDepth 100000 in
set_option maxHeartbeats 2000000 in
theorem index_p (v : Value) (l : List Int) (n : Int) (w : World) (h : IsAt w v l) (hn : l.length ≤ 1000000) :
    Calls Tryz.prog 64 #[v, .int .i64 n] w fun e w' => e = .returned (.int .i64 (ixI l n)) ∧ w' = w := by
  obtain ⟨ad, cap, rfl, _⟩ := h.shape
  have HV := Lib.hid h
  obtain ⟨R, hR⟩ : ∃ R, ixI l n = R := ⟨_, rfl⟩
  rw [hR]
  have HR := Lib.hid hR
  clear hR h
  go_enter Tryz.func64, Tryz.ntmps64
  go_wp2
  go_loopw [5, 8] (fun _ s8 wr => ∃ kk : Nat, kk ≤ l.length ∧ s8 = .int .i64 kk ∧ wr = w ∧ Hid (∀ j y, j < kk → l[j]? = some y → y ≠ n)) (fun _ i _ => l.length - (intOf i).toNat)
  case atStart => exact ⟨0, Nat.zero_le _, rfl, rfl, Lib.hid (fun j y hj => absurd hj (Nat.not_lt_zero _))⟩
  case round =>
    obtain ⟨kk, hkk, rfl, rfl, A⟩ := hrel
    by_cases hlt : kk < l.length
    · have hltz : (kk : Int) < (l.length : Int) := by omega
      obtain ⟨x, hx⟩ : ∃ x, l[kk]? = some x := ⟨_, List.getElem?_eq_getElem hlt⟩
      obtain ⟨g, o, rfl, c0⟩ := HV.out.get hx
      by_cases hq : x = n
      · subst hq
        obtain rfl : R = (kk : Int) := by
          rw [← HR.out]; unfold ixI; rw [ixN_hit hx rfl A.out]
        clear hx
        go_wp2_with fail
        go_ret
        exact ⟨rfl, rfl⟩
      · have hqb : (n == x) = false := by rw [beq_eq_false_iff_ne]; exact fun e => hq e.symm
        have HN : Hid (∀ j y, j < kk + 1 → l[j]? = some y → y ≠ n) := Lib.hid (fun j y hj hy => by
          by_cases e : j = kk
          · subst e
            rw [hx] at hy
            cases hy
            exact hq
          · exact A.out j y (by omega) hy)
        clear hx hq
        go_wp2_with fail
        go_roundw
        case rel => exact ⟨kk + 1, by omega, by go_num, by first | rfl | trivial, HN⟩
        case measure => simp [intOf]; omega
    · have hltz : ¬ (kk : Int) < (l.length : Int) := by omega
      obtain rfl : R = -1 := by
        rw [← HR.out]; unfold ixI; rw [ixN_miss (fun j y hj => A.out j y (by omega))]
      go_wp2_with fail
      go_ret
      exact ⟨rfl, rfl⟩

set_option maxRecDepth 100000 in
theorem contains_p (v : Value) (l : List Int) (n : Int) (w : World) (h : IsAt w v l) (hn : l.length ≤ 1000000) :
    Calls Tryz.prog 49 #[v, .int .i64 n] w fun e w' => e = .returned (.bool (hasI l n)) ∧ w' = w := by
  have HI := Lib.hid (index_p v l n w h hn)
  obtain ⟨ad, cap, rfl, _⟩ := h.shape
  unfold hasI
  generalize ixI l n = R at *
  clear h
  go_enter Tryz.func49, Tryz.ntmps49
  go_wp2_with fail
  refine HI.out.mono ?_
  rintro _ _ ⟨rfl, rfl⟩
  go_wp2_with fail
  go_ret
  exact ⟨rfl, rfl⟩

set_option maxRecDepth 100000 in
theorem at_p (v : Value) (l : List Int) (k : Int) (w : World) (h : IsAt w v l) :
    Calls Tryz.prog 67 #[v, .int .i64 k] w fun e w' => e = .returned (.int .i64 (getI l k)) ∧ w' = w := by
  obtain ⟨ad, cap, rfl, _⟩ := h.shape
  by_cases hk : 0 ≤ k
  · by_cases hl : k < l.length
    · obtain ⟨m, rfl⟩ : ∃ m : Nat, k = m := ⟨k.toNat, by omega⟩
      obtain ⟨x, hx⟩ : ∃ x, l[m]? = some x := ⟨_, List.getElem?_eq_getElem (by omega)⟩
      obtain ⟨g, o, rfl, c0⟩ := h.get hx
      have e : getI l m = x := by
        unfold getI
        rw [if_pos ⟨hk, hl⟩, Int.toNat_natCast, List.getD_eq_getElem?_getD, hx]
        rfl
      have t1 : decide ((m : Int) < 0) = false := decide_eq_false (by omega)
      have t2 : decide ((l.length : Int) ≤ (m : Int)) = false := decide_eq_false (by omega)
      have hml : m < l.length := by omega
      rw [e]
      clear h hx e
      go_enter Tryz.func67, Tryz.ntmps67
      go_wp2_with fail
      go_ret
      exact ⟨rfl, rfl⟩
    · have e : getI l k = 0 := by unfold getI; rw [if_neg (by omega)]
      have t1 : decide (k < 0) = false := decide_eq_false (by omega)
      have t2 : (l.length : Int) ≤ k := by omega
      rw [e]
      clear h e hl
      go_enter Tryz.func67, Tryz.ntmps67
      go_wp2_with fail
      go_ret
      exact ⟨rfl, rfl⟩
  · have e : getI l k = 0 := by unfold getI; rw [if_neg (by omega)]
    have t1 : k < 0 := by omega
    rw [e]
    clear h e hk
    go_enter Tryz.func67, Tryz.ntmps67
    go_wp2_with fail
    go_ret
    exact ⟨rfl, rfl⟩

end Go.Proofs.YtmamepmfbfinlaaGreatDoor
