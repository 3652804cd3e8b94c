/-
  Contracts of the program, and what they rest on.
-/
import Derived.Test.YtaacdggjkfmehaaGreatDoorProg
import Derived.WalkKit
import Derived.WalkSpells
import Derived.WalkLawsBesides
import Derived.Lib.Hide
import Derived.Maps.AppendAt
import Derived.Lib.SliceRun
import Derived.Lib.QuietBelow
import Derived.Deep.LoopGhost
import Derived.BigQuiet
namespace Go.Proofs.YtaacdggjkfmehaaGreatDoor
open Go.RowKit
def ixN (l : List Int) (n : Int) : Option Nat := l.findIdx? fun x => x == n
def ixI (l : List Int) (n : Int) : Int := match ixN l n with | some k => (k : Int) | none => -1
def hasI (l : List Int) (n : Int) : Bool := decide (0 ≤ ixI l n)
theorem ixN_hit {l : List Int} {n : Int} {k : Nat} {x : Int} (hx : l[k]? = some x) (hn : x = n) (hb : ∀ j y, j < k → l[j]? = some y → y ≠ n) : ixN l n = some k := by
  have hk : k < l.length := (List.getElem?_eq_some_iff.1 hx).1
  refine List.findIdx?_eq_some_iff_getElem.2 ⟨hk, ?_, fun j hj => ?_⟩
  · have : l[k] = x := (List.getElem?_eq_some_iff.1 hx).2
    rw [this]; simpa using hn
  · have := hb j l[j] hj (List.getElem?_eq_getElem (by omega))
    simpa using this
theorem ixN_miss {l : List Int} {n : Int} (hb : ∀ j y, j < l.length → l[j]? = some y → y ≠ n) : ixN l n = none := by
  unfold ixN
  rw [List.findIdx?_eq_none_iff]
  intro x hx
  obtain ⟨j, hj, rfl⟩ := List.getElem_of_mem hx
  have := hb j l[j] hj (List.getElem?_eq_getElem hj)
  simpa using this
theorem ixN_lt {l : List Int} {n : Int} {k : Nat} (h : ixN l n = some k) : k < l.length := (List.findIdx?_eq_some_iff_getElem.1 h).1
theorem ixI_cases (l : List Int) (n : Int) : (ixI l n = -1 ∧ ixN l n = none) ∨ ∃ k : Nat, k < l.length ∧ ixI l n = (k : Int) ∧ ixN l n = some k := by
  unfold ixI
  cases h : ixN l n with
  | none => exact .inl ⟨rfl, rfl⟩
  | some k => exact .inr ⟨k, ixN_lt h, rfl, rfl⟩
theorem ixI_lt (l : List Int) (n : Int) : -1 ≤ ixI l n ∧ ixI l n < l.length := by
  rcases ixI_cases l n with ⟨h, _⟩ | ⟨k, h1, h2, _⟩
  · omega
  · omega
def goodK (l : List Int) (k : Nat) : Bool := match l[k]? with | some n => decide (1 ≤ n ∧ n ≤ 5) && !hasI (l.take k) n | none => true
def mayNs (l : List Int) : Bool := decide (1 ≤ l.length ∧ l.length ≤ 5) && (List.range l.length).all (goodK l)
structure Ro where
  ep : Int
  l : List Int
  nw : Int
def Ro.zero : Ro := ⟨0, [], 0⟩
def getI (l : List Int) (k : Int) : Int := if 0 ≤ k ∧ k < l.length then l.getD k.toNat 0 else 0
def tailI (l : List Int) : Int := getI l (l.length - 1)
def mayW (l : List Int) (n : Int) : Bool := decide (n = 0) || (decide (1 < l.length) && decide (n = tailI l))
def mayR (r : Ro) : Bool := decide (1 ≤ r.ep ∧ r.ep ≤ 1099511627776) && (mayNs r.l && mayW r.l r.nw)
def chkR (r : Ro) : Ro × Bool := if mayR r then (r, true) else (Ro.zero, false)
def addR (r : Ro) (n : Int) : Ro × Bool := if mayR r && decide (r.nw = 0) then chkR ⟨r.ep + 1, r.l ++ [n], n⟩ else (Ro.zero, false)
def dropR (r : Ro) (n : Int) : Ro × Bool := match ixN r.l n with
  | none => (Ro.zero, false)
  | some k => if mayR r then chkR ⟨r.ep + 1, r.l.take k ++ r.l.drop (k + 1), if r.nw = n then 0 else r.nw⟩ else (Ro.zero, false)
def IAt (w : World) (g o : Nat) (l : List Int) : Prop := ∀ j x, l[j]? = some x → w.cell? ⟨g, o + j, none⟩ = some (.int .i64 x)
theorem IAt.kept {w w' : World} {g o : Nat} {l : List Int} (h : IAt w g o l) (e : w'.heap[g]? = w.heap[g]?) : IAt w' g o l := by
  intro j v hv
  have c (i : Nat) : w'.cell? ⟨g, i, none⟩ = w.cell? ⟨g, i, none⟩ := World.cell?_of_block (a := ⟨g, i, none⟩) e
  rw [c]
  exact h j v hv
def IsAt (w : World) (v : Value) (l : List Int) : Prop :=
  (v = .slice none 0 0 ∧ l = []) ∨ ∃ g o cap, v = .slice (some ⟨g, o, none⟩) l.length cap ∧ l.length ≤ cap ∧ cap ≤ maxLen ∧ g < w.heap.size ∧ IAt w g o l
theorem IsAt.kept {w w' : World} {v : Value} {l : List Int} (h : IsAt w v l) (hs : w.heap.size ≤ w'.heap.size) (hk : ∀ g, v.ownBlock = some g → w'.heap[g]? = w.heap[g]?) : IsAt w' v l := by
  rcases h with h | ⟨g, o, cap, rfl, h1, h2, h3, h4⟩
  · exact .inl h
  · exact .inr ⟨g, o, cap, rfl, h1, h2, by omega, h4.kept (hk g rfl)⟩
theorem IsAt.below {w w' : World} {v : Value} {l : List Int} (h : IsAt w v l) (hb : Below w.heap.size w w') : IsAt w' v l := by
  rcases h with h | ⟨g, o, cap, rfl, h1, h2, h3, h4⟩
  · exact .inl h
  · exact .inr ⟨g, o, cap, rfl, h1, h2, Nat.lt_of_lt_of_le h3 hb.size, h4.kept (hb.block g h3)⟩
theorem IsAt.shape {w : World} {v : Value} {l : List Int} (h : IsAt w v l) : ∃ ad cap, v = .slice ad l.length cap ∧ l.length ≤ cap := by
  rcases h with ⟨rfl, rfl⟩ | ⟨g, o, cap, rfl, h1, _⟩
  · exact ⟨_, _, rfl, Nat.le_refl _⟩
  · exact ⟨_, _, rfl, h1⟩
theorem IsAt.get {w : World} {ad : Option Addr} {n c : Nat} {l : List Int} (h : IsAt w (.slice ad n c) l) {k : Nat} {x : Int} (hx : l[k]? = some x) : ∃ g o, ad = some ⟨g, o, none⟩ ∧ w.cell? ⟨g, o + k, none⟩ = some (.int .i64 x) := by
  rcases h with ⟨_, rfl⟩ | ⟨g, o, cap, e, _, _, _, h4⟩
  · simp at hx
  · simp only [Value.slice.injEq] at e
    exact ⟨g, o, e.1, h4 k x hx⟩
def icells (l : List Int) : List Value := l.map fun x => Value.int .i64 x
theorem icells_length (l : List Int) : (icells l).length = l.length * 1 := by unfold icells; simp
theorem icells_append (l m : List Int) : icells (l ++ m) = icells l ++ icells m := by unfold icells; simp
theorem icells_one (l : List Int) : ∀ u ∈ icells l, u.oneCell' = true := by
  intro u hu
  unfold icells at hu
  obtain ⟨x, _, rfl⟩ := List.mem_map.1 hu
  rfl
theorem icells_get {l : List Int} {j : Nat} {u : Value} (h : (icells l)[j]? = some u) : ∃ x, l[j]? = some x ∧ u = .int .i64 x := by
  unfold icells at h
  rw [List.getElem?_map] at h
  cases hx : l[j]? with
  | none => rw [hx] at h; cases h
  | some x => rw [hx] at h; cases h; exact ⟨x, rfl, rfl⟩
theorem icells_at {l : List Int} {j : Nat} {x : Int} (h : l[j]? = some x) : (icells l)[j]? = some (.int .i64 x) := by
  unfold icells
  rw [List.getElem?_map, h]
  rfl
theorem IAt.cells {w : World} {g o : Nat} {l : List Int} (h : IAt w g o l) : ∀ j u, (icells l)[j]? = some u → w.cell? ((⟨g, o, none⟩ : Addr).add j) = some u := by
  intro j u hj
  obtain ⟨x, hx, rfl⟩ := icells_get hj
  rw [Addr.add_lit]
  exact h j x hx
def IOwn (w : World) (B : Nat) (v : Value) (l : List Int) : Prop := w.ownsRow B 3 1 v l.length (icells l)
theorem IOwn.nil (w : World) (B : Nat) : IOwn w B (.slice none 0 0) [] := World.ownsRow_nil _ _ _ _
theorem IOwn.at {w : World} {B : Nat} {v : Value} {l : List Int} (h : IOwn w B v l) : IsAt w v l := by
  rcases h.2 with ⟨rfl, h0⟩ | ⟨g, cap, cur, rfl, hb, hg, h1, h2, h3, h4⟩
  · exact .inl ⟨rfl, List.length_eq_zero_iff.1 h0⟩
  · have hlt : g < w.heap.size := by
      rcases Nat.lt_or_ge g w.heap.size with h | h
      · exact h
      · rw [Array.getElem?_eq_none h] at hg
        cases hg
    refine .inr ⟨g, 0, cap, rfl, h1, h2, hlt, fun j x hx => ?_⟩
    have hc := World.ownsRow.cells h (g := g) rfl
    have := hc j _ (icells_at hx)
    rw [Addr.add_lit] at this
    exact this
theorem IOwn.shape {w : World} {B : Nat} {v : Value} {l : List Int} (h : IOwn w B v l) : ∃ ad cap, v = .slice ad l.length cap := by
  obtain ⟨ad, cap, h, _⟩ := h.at.shape
  exact ⟨ad, cap, h⟩
theorem IOwn.lt {w : World} {B : Nat} {v : Value} {l : List Int} (h : IOwn w B v l) {g : Nat} (hg : v.ownBlock = some g) : B ≤ g ∧ g < w.heap.size := by
  rcases h.2 with ⟨rfl, _⟩ | ⟨g', cap, cur, rfl, hb, hh, _⟩
  · cases hg
  · cases hg
    refine ⟨hb, ?_⟩
    rcases Nat.lt_or_ge g' w.heap.size with h | h
    · exact h
    · rw [Array.getElem?_eq_none h] at hh
      cases hh
theorem IOwn.kept {w w' : World} {B : Nat} {v : Value} {l : List Int} (h : IOwn w B v l) (hk : ∀ g, v.ownBlock = some g → w'.heap[g]? = w.heap[g]?) : IOwn w' B v l := by
  obtain ⟨h1, h2⟩ := h
  refine ⟨h1, ?_⟩
  rcases h2 with h2 | ⟨g, cap, cur, hv, hg, hh, r⟩
  · exact .inl h2
  · exact .inr ⟨g, cap, cur, hv, hg, by rw [hk g (by rw [hv]; rfl)]; exact hh, r⟩
theorem IOwn.below {w w' : World} {B : Nat} {v : Value} {l : List Int} (h : IOwn w B v l) (hb : Below w.heap.size w w') : IOwn w' B v l := h.kept fun g hg => hb.block g (h.lt hg).2
theorem IOwn.mono {w : World} {B B' : Nat} {v : Value} {l : List Int} (h : IOwn w B v l) (hB : B' ≤ B) : IOwn w B' v l := by
  obtain ⟨h1, h2⟩ := h
  refine ⟨h1, ?_⟩
  rcases h2 with h2 | ⟨g, cap, cur, hv, hg, r⟩
  · exact .inl h2
  · exact .inr ⟨g, cap, cur, hv, by omega, r⟩
def RC (w : World) (b : Nat) (e : Int) (v : Value) (n : Int) : Prop :=
  (w.cell? ⟨b, 0, none⟩ = some (.int .i64 e) ∧ w.cell? ⟨b, 1, none⟩ = some v ∧ w.cell? ⟨b, 2, none⟩ = some (.int .i64 n)) ∧ w.frozen? ⟨b, 0, none⟩ = false ∧ w.frozen? ⟨b, 1, none⟩ = false ∧ w.frozen? ⟨b, 2, none⟩ = false
theorem RC.lt {w : World} {b : Nat} {e : Int} {v : Value} {n : Int} (h : RC w b e v n) : b < w.heap.size := World.block_lt_of_cell? w _ h.1.1
theorem RC.kept {w w' : World} {b : Nat} {e : Int} {v : Value} {n : Int} (h : RC w b e v n) (hh : w'.heap[b]? = w.heap[b]?) : RC w' b e v n := by
  obtain ⟨⟨h0, h1, h2⟩, f0, f1, f2⟩ := h
  have c (o : Nat) : w'.cell? ⟨b, o, none⟩ = w.cell? ⟨b, o, none⟩ := World.cell?_of_block (a := ⟨b, o, none⟩) hh
  have f (o : Nat) : w'.frozen? ⟨b, o, none⟩ = w.frozen? ⟨b, o, none⟩ := World.frozen?_of_block (a := ⟨b, o, none⟩) hh
  exact ⟨⟨by rw [c]; exact h0, by rw [c]; exact h1, by rw [c]; exact h2⟩, by rw [f]; exact f0, by rw [f]; exact f1, by rw [f]; exact f2⟩
theorem RC.below {w w' : World} {b : Nat} {e : Int} {v : Value} {n : Int} (h : RC w b e v n) (hb : Below w.heap.size w w') : RC w' b e v n := h.kept (hb.block b h.lt)
theorem RC.new (w : World) (e : Int) (ad : Option Addr) (k c : Nat) (n : Int) (t : TypeId) : RC (w.alloc (.cells #[.int .i64 e, .slice ad k c, .int .i64 n] t)) w.heap.size e (.slice ad k c) n := by
  refine ⟨⟨?_, ?_, ?_⟩, ?_, ?_, ?_⟩ <;> go_simp
theorem RC.alloc {w : World} {b : Nat} {e : Int} {v : Value} {n : Int} (h : RC w b e v n) (o : Obj) : RC (w.alloc o) b e v n := h.below ((Below.refl _ w).alloc (Nat.le_refl _) _)
theorem intInfo0 : (Tryz.prog.info? 3).map (fun i => (i.zero, i.size, i.bytes)) = some (some (.int .i64 0), 1, 8) := by kernel_rfl
theorem int_info : ∃ i0 : TypeInfo, Tryz.prog.info? 3 = some i0 ∧ i0.zero = some (.int .i64 0) ∧ i0.size = 1 ∧ i0.bytes = 8 := by
  have h := intInfo0
  cases hi : Tryz.prog.info? 3 with
  | none => rw [hi] at h; cases h
  | some i =>
    rw [hi] at h
    simp only [Option.map_some, Option.some.injEq, Prod.mk.injEq] at h
    exact ⟨i, rfl, h⟩
set_option maxRecDepth 100000 in
set_option maxHeartbeats 2000000 in
theorem index_p (v : Value) (l : List Int) (n : Int) (w : World) (h : IsAt w v l) (hn : l.length ≤ 1000000) :
    Calls Tryz.prog 91 #[v, .int .i64 n] w fun e w' => e = .returned (.int .i64 (ixI l n)) ∧ w' = w := by
  obtain ⟨ad, cap, rfl, _⟩ := h.shape
  have HV := Lib.hid h
  obtain ⟨R, hR⟩ : ∃ R, ixI l n = R := ⟨_, rfl⟩
  rw [hR]
  have HR := Lib.hid hR
  clear hR h
  go_enter Tryz.func91, Tryz.ntmps91
  go_wp2
  go_loopw [5, 8] (fun _ s8 wr => ∃ kk : Nat, kk ≤ l.length ∧ s8 = .int .i64 kk ∧ wr = w ∧ Hid (∀ j y, j < kk → l[j]? = some y → y ≠ n)) (fun _ i _ => l.length - (intOf i).toNat)
  case atStart => exact ⟨0, Nat.zero_le _, rfl, rfl, Lib.hid (fun j y hj => absurd hj (Nat.not_lt_zero _))⟩
  case round =>
    obtain ⟨kk, hkk, rfl, rfl, A⟩ := hrel
    by_cases hlt : kk < l.length
    · have hltz : (kk : Int) < (l.length : Int) := by omega
      obtain ⟨x, hx⟩ : ∃ x, l[kk]? = some x := ⟨_, List.getElem?_eq_getElem hlt⟩
      obtain ⟨g, o, rfl, c0⟩ := HV.out.get hx
      by_cases hq : x = n
      · subst hq
        obtain rfl : R = (kk : Int) := by
          rw [← HR.out]; unfold ixI; rw [ixN_hit hx rfl A.out]
        clear hx
        go_wp2_with fail
        go_ret
        exact ⟨rfl, rfl⟩
      · have hqb : (n == x) = false := by rw [beq_eq_false_iff_ne]; exact fun e => hq e.symm
        have HN : Hid (∀ j y, j < kk + 1 → l[j]? = some y → y ≠ n) := Lib.hid (fun j y hj hy => by
          by_cases e : j = kk
          · subst e
            rw [hx] at hy
            cases hy
            exact hq
          · exact A.out j y (by omega) hy)
        clear hx hq
        go_wp2_with fail
        go_roundw
        case rel => exact ⟨kk + 1, by omega, by go_num, by first | rfl | trivial, HN⟩
        case measure => simp [intOf]; omega
    · have hltz : ¬ (kk : Int) < (l.length : Int) := by omega
      obtain rfl : R = -1 := by
        rw [← HR.out]; unfold ixI; rw [ixN_miss (fun j y hj => A.out j y (by omega))]
      go_wp2_with fail
      go_ret
      exact ⟨rfl, rfl⟩
set_option maxRecDepth 100000 in
theorem contains_p (v : Value) (l : List Int) (n : Int) (w : World) (h : IsAt w v l) (hn : l.length ≤ 1000000) :
    Calls Tryz.prog 83 #[v, .int .i64 n] w fun e w' => e = .returned (.bool (hasI l n)) ∧ w' = w := by
  have HI := Lib.hid (index_p v l n w h hn)
  obtain ⟨ad, cap, rfl, _⟩ := h.shape
  unfold hasI
  generalize ixI l n = R at *
  clear h
  go_enter Tryz.func83, Tryz.ntmps83
  go_wp2_with fail
  refine HI.out.mono ?_
  rintro _ _ ⟨rfl, rfl⟩
  go_wp2_with fail
  go_ret
  exact ⟨rfl, rfl⟩
set_option maxRecDepth 100000 in
set_option maxHeartbeats 2000000 in
theorem equal_p (v v' : Value) (l l' : List Int) (w : World) (h : IsAt w v l) (h' : IsAt w v' l') (hn : l.length ≤ 1000000) (hn' : l'.length ≤ 1000000) :
    Calls Tryz.prog 101 #[v, v'] w fun e w' => e = .returned (.bool (decide (l = l'))) ∧ Below w.heap.size w w' := by
  obtain ⟨ad, cap, rfl, _⟩ := h.shape
  obtain ⟨ad', cap', rfl, _⟩ := h'.shape
  have HV := Lib.hid (And.intro h h')
  obtain ⟨R, hR⟩ : ∃ R, decide (l = l') = R := ⟨_, rfl⟩
  rw [hR]
  have HR := Lib.hid hR
  clear hR h h'
  by_cases hl : l.length = l'.length
  case neg =>
    obtain rfl : R = false := by
      rw [← HR.out]
      exact decide_eq_false (fun e => hl (by rw [e]))
    have hlz : ((l.length : Int) == (l'.length : Int)) = false := by rw [beq_eq_false_iff_ne]; omega
    have hlz2 : ¬ (l.length : Int) = (l'.length : Int) := by omega
    clear hl
    go_enter Tryz.func101, Tryz.ntmps101
    go_wp2_with fail
    go_ret
    exact ⟨rfl, Below.refl _ _⟩
  case pos =>
    have HLL := Lib.hid hl
    rw [← hl] at HV
    rw [← hl]
    clear hl
    go_enter Tryz.func101, Tryz.ntmps101
    go_wp2_with fail
    go_loopw [5, 13] (fun _ s8 wr => ∃ kk : Nat, kk ≤ l.length ∧ s8 = .int .i64 kk ∧ Hid (Below w.heap.size w wr) ∧ Hid (∀ j, j < kk → l[j]? = l'[j]?)) (fun _ i _ => l.length - (intOf i).toNat)
    case atStart => exact ⟨0, Nat.zero_le _, rfl, Lib.hid (Below.refl _ _), Lib.hid (fun j hj => absurd hj (Nat.not_lt_zero _))⟩
    case round =>
      obtain ⟨kk, hkk, rfl, BW, A⟩ := hrel
      by_cases hlt : kk < l.length
      · have hltz : (kk : Int) < (l.length : Int) := by omega
        obtain ⟨x, hx⟩ : ∃ x, l[kk]? = some x := ⟨_, List.getElem?_eq_getElem hlt⟩
        obtain ⟨y, hy⟩ : ∃ y, l'[kk]? = some y := ⟨_, List.getElem?_eq_getElem (by have := HLL.out; omega)⟩
        obtain ⟨g, o, rfl, c0⟩ := (HV.out.1.below BW.out).get hx
        obtain ⟨g', o', rfl, d0⟩ := (HV.out.2.below BW.out).get hy
        by_cases hq : x = y
        · have HN : Hid (∀ j, j < kk + 1 → l[j]? = l'[j]?) := Lib.hid (fun j hj => by
            by_cases e : j = kk
            · subst e
              rw [hx, hy, hq]
            · exact A.out j (by omega))
          subst hq
          clear hx hy
          go_wp2_with fail
          go_region
          all_goals
            go_wp2_with fail
            go_roundw
            case rel => exact ⟨kk + 1, by omega, by go_num, Lib.hid BW.out.drew, HN⟩
            case measure => simp [intOf]; omega
        · have hqb : (x == y) = false := by rw [beq_eq_false_iff_ne]; exact hq
          obtain rfl : R = false := by
            rw [← HR.out]
            refine decide_eq_false (fun e => ?_)
            subst e
            rw [hx] at hy
            exact hq (Option.some.inj hy)
          clear hx hy hq
          go_wp2_with fail
          go_region
          all_goals
            go_wp2_with fail
            go_ret
            exact ⟨rfl, BW.out.drew⟩
      · have hltz : ¬ (kk : Int) < (l.length : Int) := by omega
        obtain rfl : R = true := by
          rw [← HR.out]
          exact decide_eq_true (List.ext_getElem? fun j => by
            by_cases hj : j < kk
            · exact A.out j hj
            · rw [List.getElem?_eq_none (by omega), List.getElem?_eq_none (by have := HLL.out; omega)])
        go_wp2_with fail
        go_ret
        exact ⟨rfl, BW.out⟩
set_option maxRecDepth 100000 in
theorem at_p (v : Value) (l : List Int) (k : Int) (w : World) (h : IsAt w v l) :
    Calls Tryz.prog 97 #[v, .int .i64 k] w fun e w' => e = .returned (.int .i64 (getI l k)) ∧ w' = w := by
  obtain ⟨ad, cap, rfl, _⟩ := h.shape
  by_cases hk : 0 ≤ k
  · by_cases hl : k < l.length
    · obtain ⟨m, rfl⟩ : ∃ m : Nat, k = m := ⟨k.toNat, by omega⟩
      obtain ⟨x, hx⟩ : ∃ x, l[m]? = some x := ⟨_, List.getElem?_eq_getElem (by omega)⟩
      obtain ⟨g, o, rfl, c0⟩ := h.get hx
      have e : getI l m = x := by
        unfold getI
        rw [if_pos ⟨hk, hl⟩, Int.toNat_natCast, List.getD_eq_getElem?_getD, hx]
        rfl
      have t1 : decide ((m : Int) < 0) = false := decide_eq_false (by omega)
      have t2 : decide ((l.length : Int) ≤ (m : Int)) = false := decide_eq_false (by omega)
      have hml : m < l.length := by omega
      rw [e]
      clear h hx e
      go_enter Tryz.func97, Tryz.ntmps97
      go_wp2_with fail
      go_ret
      exact ⟨rfl, rfl⟩
    · have e : getI l k = 0 := by unfold getI; rw [if_neg (by omega)]
      have t1 : decide (k < 0) = false := decide_eq_false (by omega)
      have t2 : (l.length : Int) ≤ k := by omega
      rw [e]
      clear h e hl
      go_enter Tryz.func97, Tryz.ntmps97
      go_wp2_with fail
      go_ret
      exact ⟨rfl, rfl⟩
  · have e : getI l k = 0 := by unfold getI; rw [if_neg (by omega)]
    have t1 : k < 0 := by omega
    rw [e]
    clear h e hk
    go_enter Tryz.func97, Tryz.ntmps97
    go_wp2_with fail
    go_ret
    exact ⟨rfl, rfl⟩
end Go.Proofs.YtaacdggjkfmehaaGreatDoor
namespace Go.Proofs.YtaacdggjkfmehaaGreatDoor
open Go.RowKit
theorem IsAt.take {w : World} {ad : Option Addr} {n c : Nat} {l : List Int} (h : IsAt w (.slice ad n c) l) {k : Nat} (hk : k ≤ l.length) : IsAt w (.slice ad k c) (l.take k) := by
  rcases h with ⟨e, rfl⟩ | ⟨g, o, cap, e, h1, h2, h3, h4⟩
  · simp only [Value.slice.injEq] at e
    obtain ⟨rfl, rfl, rfl⟩ := e
    have : k = 0 := by simpa using hk
    subst this
    exact .inl ⟨rfl, rfl⟩
  · simp only [Value.slice.injEq] at e
    obtain ⟨rfl, rfl, rfl⟩ := e
    have hl : (l.take k).length = k := by simp; omega
    refine .inr ⟨g, o, c, by rw [hl], by omega, h2, h3, fun j x hx => h4 j x ?_⟩
    rw [List.getElem?_take] at hx
    split at hx
    · exact hx
    · cases hx
theorem ro_below (w : World) (e : Int) (v : Value) (n : Int) (t : TypeId) : Below w.heap.size w (w.alloc (.cells #[.int .i64 e, v, .int .i64 n] t)) := (Below.refl _ w).alloc (Nat.le_refl _) _
theorem below_drewN {n : Nat} {w W : World} (h : Below n w W) (k : Nat) : Below n w (W.drewN k) := by
  obtain ⟨h1, h2, h3, h4, h5⟩ := h
  exact ⟨h1, h2, h3, h4, h5⟩
def nextI (l : List Int) (n : Int) : Int := if ixI l n < 0 then 0 else getI l (ixI l n + 1)
def aheadI (l : List Int) (n : Int) : Int := getI l (ixI l n - 1)
theorem ln_wrap {m : Nat} (h : m ≤ 1000000) : IntKind.i64.wrap ((m : Int) - 1) = (m : Int) - 1 := IntWalk.i64_in _ (by omega)
set_option maxRecDepth 100000 in
set_option maxHeartbeats 2000000 in
theorem has_p (e nw : Int) (n : Int) (v : Value) (l : List Int) (w : World) (h : IsAt w v l) (hn : l.length ≤ 1000000) :
    Calls Tryz.prog 62 #[.agg #[.int .i64 e, v, .int .i64 nw], .int .i64 n] w fun r w' => r = .returned (.bool (hasI l n)) ∧ Below w.heap.size w w' := by
  obtain ⟨ad, cap, rfl, _⟩ := h.shape
  have HB := Lib.hid (ro_below w e (.slice ad l.length cap) nw 24)
  have h1 := RC.new w e ad l.length cap nw 24
  have HV := Lib.hid (h.below HB.out)
  have HI := Lib.hid (contains_p _ l n _ HV.out hn)
  generalize hasI l n = R at *
  clear h
  go_enter Tryz.func62, Tryz.ntmps62
  go_wp2_with fail
  generalize (w.alloc (.cells #[.int .i64 e, .slice ad l.length cap, .int .i64 nw] 24)) = W at *
  obtain ⟨⟨c0, c1, c2⟩, _⟩ := h1
  go_wp2_with fail
  refine HI.out.mono ?_
  rintro _ _ ⟨rfl, rfl⟩
  go_wp2_with fail
  go_ret
  exact ⟨rfl, HB.out⟩
set_option maxRecDepth 100000 in
set_option maxHeartbeats 2000000 in
theorem head_p (e nw : Int) (v : Value) (l : List Int) (w : World) (h : IsAt w v l) :
    Calls Tryz.prog 72 #[.agg #[.int .i64 e, v, .int .i64 nw]] w fun r w' => r = .returned (.int .i64 (getI l 0)) ∧ Below w.heap.size w w' := by
  obtain ⟨ad, cap, rfl, _⟩ := h.shape
  have HB := Lib.hid (ro_below w e (.slice ad l.length cap) nw 24)
  have h1 := RC.new w e ad l.length cap nw 24
  have HV := Lib.hid (h.below HB.out)
  have HI := Lib.hid (at_p _ l 0 _ HV.out)
  generalize getI l 0 = R at *
  clear h
  go_enter Tryz.func72, Tryz.ntmps72
  go_wp2_with fail
  generalize (w.alloc (.cells #[.int .i64 e, .slice ad l.length cap, .int .i64 nw] 24)) = W at *
  obtain ⟨⟨c0, c1, c2⟩, _⟩ := h1
  go_wp2_with fail
  refine HI.out.mono ?_
  rintro _ _ ⟨rfl, rfl⟩
  go_wp2_with fail
  go_ret
  exact ⟨rfl, HB.out⟩
set_option maxRecDepth 100000 in
set_option maxHeartbeats 2000000 in
theorem tail_p (e nw : Int) (v : Value) (l : List Int) (w : World) (h : IsAt w v l) (hn : l.length ≤ 1000000) :
    Calls Tryz.prog 73 #[.agg #[.int .i64 e, v, .int .i64 nw]] w fun r w' => r = .returned (.int .i64 (tailI l)) ∧ Below w.heap.size w w' := by
  obtain ⟨ad, cap, rfl, _⟩ := h.shape
  have HB := Lib.hid (ro_below w e (.slice ad l.length cap) nw 24)
  have h1 := RC.new w e ad l.length cap nw 24
  have HV := Lib.hid (h.below HB.out)
  have HI := Lib.hid (at_p _ l (l.length - 1) _ HV.out)
  have hw := ln_wrap hn
  unfold tailI
  generalize getI l (l.length - 1) = R at *
  clear h
  go_enter Tryz.func73, Tryz.ntmps73
  go_wp2_with fail
  generalize (w.alloc (.cells #[.int .i64 e, .slice ad l.length cap, .int .i64 nw] 24)) = W at *
  obtain ⟨⟨c0, c1, c2⟩, _⟩ := h1
  go_wp2_with fail
  refine HI.out.mono ?_
  rintro _ _ ⟨rfl, rfl⟩
  go_wp2_with fail
  go_ret
  exact ⟨rfl, HB.out⟩
set_option maxRecDepth 100000 in
set_option maxHeartbeats 2000000 in
theorem ahead_p (e nw : Int) (n : Int) (v : Value) (l : List Int) (w : World) (h : IsAt w v l) (hn : l.length ≤ 1000000) :
    Calls Tryz.prog 75 #[.agg #[.int .i64 e, v, .int .i64 nw], .int .i64 n] w fun r w' => r = .returned (.int .i64 (aheadI l n)) ∧ Below w.heap.size w w' := by
  obtain ⟨ad, cap, rfl, _⟩ := h.shape
  have HB := Lib.hid (ro_below w e (.slice ad l.length cap) nw 24)
  have h1 := RC.new w e ad l.length cap nw 24
  have HV := Lib.hid (h.below HB.out)
  have HI : Hid (∀ Y, Below w.heap.size w Y → Calls Tryz.prog 91 #[.slice ad l.length cap, .int .i64 n] Y fun e w' => e = .returned (.int .i64 (ixI l n)) ∧ w' = Y) := Lib.hid (fun Y hY => index_p _ l n Y (h.below hY) hn)
  have HJ : Hid (∀ Y, Below w.heap.size w Y → Calls Tryz.prog 97 #[.slice ad l.length cap, .int .i64 (ixI l n - 1)] Y fun e w' => e = .returned (.int .i64 (getI l (ixI l n - 1))) ∧ w' = Y) := Lib.hid (fun Y hY => at_p _ l (ixI l n - 1) Y (h.below hY))
  have hlt := ixI_lt l n
  have hw : IntKind.i64.wrap (ixI l n - 1) = ixI l n - 1 := IntWalk.i64_in _ (by omega)
  unfold aheadI
  generalize ixI l n = k at *
  generalize getI l (k - 1) = R at *
  clear hlt HV
  clear h
  go_enter Tryz.func75, Tryz.ntmps75
  go_wp2_with fail
  generalize (w.alloc (.cells #[.int .i64 e, .slice ad l.length cap, .int .i64 nw] 24)) = W at *
  obtain ⟨⟨c0, c1, c2⟩, _⟩ := h1
  go_quiet (first | (go_at_call 91; exact Calls.quiet_of_same (HI.out _ (below_drewN HB.out _))) | (go_at_call 97; exact Calls.quiet_of_same (HJ.out _ (below_drewN HB.out _))))
  go_wp2_with fail
  go_ret
  exact ⟨rfl, below_drewN HB.out nq⟩
set_option maxRecDepth 100000 in
set_option maxHeartbeats 2000000 in
theorem next_p (e nw : Int) (n : Int) (v : Value) (l : List Int) (w : World) (h : IsAt w v l) (hn : l.length ≤ 1000000) :
    Calls Tryz.prog 74 #[.agg #[.int .i64 e, v, .int .i64 nw], .int .i64 n] w fun r w' => r = .returned (.int .i64 (nextI l n)) ∧ Below w.heap.size w w' := by
  obtain ⟨ad, cap, rfl, _⟩ := h.shape
  have HB := Lib.hid (ro_below w e (.slice ad l.length cap) nw 24)
  have h1 := RC.new w e ad l.length cap nw 24
  have HV := Lib.hid (h.below HB.out)
  have HI := Lib.hid (index_p _ l n _ HV.out hn)
  have HJ := Lib.hid (at_p _ l (ixI l n + 1) _ HV.out)
  have hlt := ixI_lt l n
  have hw : IntKind.i64.wrap (ixI l n + 1) = ixI l n + 1 := IntWalk.i64_in _ (by omega)
  obtain ⟨R, hR⟩ : ∃ R, nextI l n = R := ⟨_, rfl⟩
  rw [hR]
  unfold nextI at hR
  generalize ixI l n = k at *
  clear hlt
  clear h
  go_enter Tryz.func74, Tryz.ntmps74
  go_wp2_with fail
  generalize (w.alloc (.cells #[.int .i64 e, .slice ad l.length cap, .int .i64 nw] 24)) = W at *
  obtain ⟨⟨c0, c1, c2⟩, _⟩ := h1
  go_wp2_with fail
  refine HI.out.mono ?_
  rintro _ _ ⟨rfl, rfl⟩
  by_cases hk : k < 0
  · rw [if_pos hk] at hR
    subst hR
    go_wp2_with fail
    go_ret
    exact ⟨rfl, HB.out⟩
  · rw [if_neg hk] at hR
    have hkb : decide (k < 0) = false := decide_eq_false hk
    rw [hR] at HJ
    go_wp2_with fail
    refine HJ.out.mono ?_
    rintro _ _ ⟨rfl, rfl⟩
    go_wp2_with fail
    go_ret
    exact ⟨rfl, HB.out⟩
theorem mayNs_len {l : List Int} (h : ¬ (1 ≤ l.length ∧ l.length ≤ 5)) : mayNs l = false := by unfold mayNs; rw [decide_eq_false h]; rfl
theorem mayNs_bad {l : List Int} {k : Nat} (hk : k < l.length) (h : goodK l k = false) : mayNs l = false := by
  unfold mayNs
  rw [Bool.and_eq_false_iff]
  refine .inr ?_
  rw [List.all_eq_false]
  exact ⟨k, List.mem_range.2 hk, by rw [h]; decide⟩
theorem mayNs_yes {l : List Int} (h : 1 ≤ l.length ∧ l.length ≤ 5) (hg : ∀ k, k < l.length → goodK l k = true) : mayNs l = true := by
  unfold mayNs
  rw [decide_eq_true h, Bool.true_and, List.all_eq_true]
  exact fun k hk => hg k (List.mem_range.1 hk)
theorem goodK_at {l : List Int} {k : Nat} {x : Int} (hx : l[k]? = some x) : goodK l k = (decide (1 ≤ x ∧ x ≤ 5) && !hasI (l.take k) x) := by unfold goodK; rw [hx]
set_option maxRecDepth 100000 in
set_option maxHeartbeats 2000000 in
theorem mayNodes_p (v : Value) (l : List Int) (w : World) (h : IsAt w v l) (hn : l.length ≤ 1000000) :
    Calls Tryz.prog 55 #[v] w fun r w' => r = .returned (.bool (mayNs l)) ∧ w' = w := by
  obtain ⟨ad, cap, rfl, hcap⟩ := h.shape
  have HV := Lib.hid h
  obtain ⟨R, hR⟩ : ∃ R, mayNs l = R := ⟨_, rfl⟩
  rw [hR]
  have HR := Lib.hid hR
  clear hR h
  by_cases h0 : l.length = 0
  · obtain rfl : R = false := by rw [← HR.out]; exact mayNs_len (by omega)
    have t0 : ((l.length : Int) == 0) = true := by rw [beq_iff_eq]; omega
    clear h0
    go_enter Tryz.func55, Tryz.ntmps55
    go_wp2_with fail
    go_ret
    exact ⟨rfl, rfl⟩
  have t0 : ((l.length : Int) == 0) = false := by rw [beq_eq_false_iff_ne]; omega
  by_cases h5 : l.length ≤ 5
  case neg =>
    obtain rfl : R = false := by rw [← HR.out]; exact mayNs_len (by omega)
    have t5 : (5 : Int) < (l.length : Int) := by omega
    clear h0 h5
    go_enter Tryz.func55, Tryz.ntmps55
    go_wp2_with fail
    go_ret
    exact ⟨rfl, rfl⟩
  have t5 : decide ((5 : Int) < (l.length : Int)) = false := decide_eq_false (by omega)
  have HLL := Lib.hid (show 1 ≤ l.length ∧ l.length ≤ 5 by omega)
  clear h0 h5
  go_enter Tryz.func55, Tryz.ntmps55
  go_wp2_with fail
  go_loopw [3, 4, 15] (fun _ _ s15 wr => ∃ k : Nat, k ≤ l.length ∧ s15 = .int .i64 k ∧ wr = w ∧ Hid (∀ j, j < k → goodK l j = true)) (fun _ _ i _ => l.length - (intOf i).toNat)
  case atStart => exact ⟨0, Nat.zero_le _, rfl, rfl, Lib.hid (fun j hj => absurd hj (Nat.not_lt_zero _))⟩
  case round =>
    obtain ⟨k, hk, rfl, rfl, A⟩ := hrel
    by_cases hlt : k < l.length
    · have hltz : (k : Int) < (l.length : Int) := by omega
      obtain ⟨x, hx⟩ : ∃ x, l[k]? = some x := ⟨_, List.getElem?_eq_getElem hlt⟩
      obtain ⟨g, o, rfl, c0⟩ := HV.out.get hx
      have hgk := goodK_at hx
      have HT := Lib.hid (contains_p _ (l.take k) x wr (HV.out.take (by omega)) (by simp; omega))
      have hin : k ≤ l.length := by omega
      have hinc : k ≤ cap := by omega
      have HBAD : Hid (goodK l k = false → R = false) := Lib.hid (fun e => by rw [← HR.out]; exact mayNs_bad hlt e)
      have HNX : Hid (goodK l k = true → ∀ j, j < k + 1 → goodK l j = true) := Lib.hid (fun e j hj => by
        by_cases ej : j = k
        · rw [ej]; exact e
        · exact A.out j (by omega))
      clear hx
      by_cases hx1 : x < 1
      · obtain rfl : R = false := HBAD.out (by rw [hgk, decide_eq_false (by omega)]; rfl)
        clear hgk HBAD HNX
        go_wp2_with fail
        go_ret
        exact ⟨rfl, rfl⟩
      have t1 : decide (x < 1) = false := decide_eq_false hx1
      by_cases hx5 : 5 < x
      · obtain rfl : R = false := HBAD.out (by rw [hgk, decide_eq_false (by omega)]; rfl)
        clear hgk HBAD HNX hx1
        go_wp2_with fail
        go_ret
        exact ⟨rfl, rfl⟩
      have t2 : decide (5 < x) = false := decide_eq_false hx5
      rw [decide_eq_true (show 1 ≤ x ∧ x ≤ 5 by omega), Bool.true_and] at hgk
      clear hx1 hx5
      cases hc : hasI (l.take k) x with
      | true =>
        rw [hc] at hgk HT
        obtain rfl : R = false := HBAD.out (by rw [hgk]; rfl)
        clear hgk HBAD HNX hc
        go_wp2_with fail
        refine HT.out.mono ?_
        rintro _ _ ⟨rfl, rfl⟩
        go_wp2_with fail
        go_ret
        exact ⟨rfl, rfl⟩
      | false =>
        rw [hc] at hgk HT
        have HN := Lib.hid (HNX.out (by rw [hgk]; rfl))
        clear hgk HBAD HNX hc
        go_wp2_with fail
        refine HT.out.mono ?_
        rintro _ _ ⟨rfl, rfl⟩
        go_wp2_with fail
        go_roundw
        case rel => exact ⟨k + 1, by omega, by go_num, by first | rfl | trivial, HN⟩
        case measure => simp [intOf]; omega
    · have hltz : ¬ (k : Int) < (l.length : Int) := by omega
      obtain rfl : R = true := by rw [← HR.out]; exact mayNs_yes HLL.out (fun j hj => A.out j (by omega))
      go_wp2_with fail
      go_ret
      exact ⟨rfl, rfl⟩
set_option maxRecDepth 100000 in
set_option maxHeartbeats 2000000 in
theorem mayNew_p (e nw : Int) (v : Value) (l : List Int) (w : World) (h : IsAt w v l) (hn : l.length ≤ 1000000) :
    Calls Tryz.prog 56 #[.agg #[.int .i64 e, v, .int .i64 nw]] w fun r w' => r = .returned (.bool (mayW l nw)) ∧ Below w.heap.size w w' := by
  obtain ⟨ad, cap, rfl, _⟩ := h.shape
  have HB := Lib.hid (ro_below w e (.slice ad l.length cap) nw 24)
  have h1 := RC.new w e ad l.length cap nw 24
  have HV := Lib.hid (h.below HB.out)
  have HTL : Hid (∀ Y, Below w.heap.size w Y → Calls Tryz.prog 73 #[.agg #[.int .i64 e, .slice ad l.length cap, .int .i64 nw]] Y fun r w' => r = .returned (.int .i64 (tailI l)) ∧ Below Y.heap.size Y w') := Lib.hid (fun Y hY => tail_p e nw _ l Y (h.below hY) hn)
  obtain ⟨R, hR⟩ : ∃ R, mayW l nw = R := ⟨_, rfl⟩
  rw [hR]
  unfold mayW at hR
  generalize tailI l = tl at *
  clear h
  go_enter Tryz.func56, Tryz.ntmps56
  go_wp2_with fail
  generalize (w.alloc (.cells #[.int .i64 e, .slice ad l.length cap, .int .i64 nw] 24)) = W at *
  obtain ⟨⟨c0, c1, c2⟩, _⟩ := h1
  by_cases hz : nw = 0
  · obtain rfl : R = true := by rw [← hR, decide_eq_true hz]; rfl
    have hzb : (nw == 0) = true := beq_iff_eq.2 hz
    clear hR hz
    go_quiet (fail)
    go_wp2_with fail
    go_ret
    exact ⟨rfl, below_drewN HB.out nq⟩
  have hzb : (nw == 0) = false := by rw [beq_eq_false_iff_ne]; exact hz
  rw [decide_eq_false hz, Bool.false_or] at hR
  by_cases hl : 1 < l.length
  case neg =>
    have t1 : decide ((1 : Int) < (l.length : Int)) = false := decide_eq_false (by omega)
    rw [decide_eq_false hl, Bool.false_and] at hR
    subst hR
    clear hl hz
    go_quiet (fail)
    go_wp2_with fail
    go_ret
    exact ⟨rfl, below_drewN HB.out nq⟩
  have t1 : (1 : Int) < (l.length : Int) := by omega
  rw [decide_eq_true hl, Bool.true_and] at hR
  have hRb : (nw == tl) = R := by rw [← hR]; rfl
  have y1 : Hid (∀ d os, Calls Tryz.prog 73 #[.agg #[.int .i64 e, .slice ad l.length cap, .int .i64 nw]] (Go.Sort.grow (redrawn W d) os) fun e w'' => e = .returned (.int .i64 tl) ∧ ∃ p : Regrown, w'' = Go.Sort.grow (redrawn W p.d) p.os) := Lib.hid (fun d os => Calls.regrown_of (HTL.out _ (HB.out.trans ((below_regrown W d os).mono HB.out.size))))
  have q0 := cell_regrown c0
  have q1 := cell_regrown c1
  have q2 := cell_regrown c2
  clear hl hz hR c0 c1 c2
  refine wp_region_quiet_below (by kernel_rfl) (by kernel_rfl) ?_
  repeat (quiet_step ((go_at_call 73; exact y1.out _ _)))
  refine wpQuiet_nil ?_
  intro _ hw'
  obtain ⟨⟨dq, osq⟩, hw''⟩ := hw'
  subst hw''
  have hE := HB.out.trans ((below_regrown W dq osq).mono HB.out.size)
  go_wp2_with fail
  go_ret
  subst hRb
  exact ⟨rfl, hE⟩
set_option maxRecDepth 100000 in
set_option maxHeartbeats 2000000 in
theorem romay_p (e nw : Int) (v : Value) (l : List Int) (w : World) (h : IsAt w v l) (hn : l.length ≤ 1000000) :
    Calls Tryz.prog 27 #[.agg #[.int .i64 e, v, .int .i64 nw]] w fun r w' => r = .returned (.bool (mayR ⟨e, l, nw⟩)) ∧ Below w.heap.size w w' := by
  obtain ⟨ad, cap, rfl, _⟩ := h.shape
  have HB := Lib.hid (ro_below w e (.slice ad l.length cap) nw 24)
  have HV := Lib.hid (h.below HB.out)
  have HM1 := Lib.hid (mayNodes_p _ l _ HV.out hn)
  have HM2 := Lib.hid (mayNew_p e nw _ l _ HV.out hn)
  obtain ⟨R, hR⟩ : ∃ R, mayR ⟨e, l, nw⟩ = R := ⟨_, rfl⟩
  rw [hR]
  unfold mayR at hR
  dsimp only at hR
  generalize mayNs l = m1 at *
  generalize mayW l nw = m2 at *
  clear h HV
  by_cases h1 : 1 ≤ e
  case neg =>
    have t1 : decide (1 ≤ e) = false := decide_eq_false h1
    rw [decide_eq_false (show ¬ (1 ≤ e ∧ e ≤ 1099511627776) by omega), Bool.false_and] at hR
    subst hR
    clear h1
    go_enter Tryz.func27, Tryz.ntmps27
    go_wp2_with fail
    go_ret
    exact ⟨rfl, HB.out⟩
  by_cases h2 : e ≤ 1099511627776
  case neg =>
    have t2 : decide (e ≤ 1099511627776) = false := decide_eq_false h2
    rw [decide_eq_false (show ¬ (1 ≤ e ∧ e ≤ 1099511627776) by omega), Bool.false_and] at hR
    subst hR
    clear h2
    go_enter Tryz.func27, Tryz.ntmps27
    go_wp2_with fail
    go_ret
    exact ⟨rfl, HB.out⟩
  rw [decide_eq_true (show 1 ≤ e ∧ e ≤ 1099511627776 from ⟨h1, h2⟩), Bool.true_and] at hR
  cases m1 with
  | false =>
    rw [Bool.false_and] at hR
    subst hR
    go_enter Tryz.func27, Tryz.ntmps27
    go_wp2_with fail
    refine HM1.out.mono ?_
    rintro _ _ ⟨rfl, rfl⟩
    go_wp2_with fail
    go_ret
    exact ⟨rfl, HB.out⟩
  | true =>
    rw [Bool.true_and] at hR
    subst hR
    go_enter Tryz.func27, Tryz.ntmps27
    go_wp2_with fail
    refine HM1.out.mono ?_
    rintro _ _ ⟨rfl, rfl⟩
    go_wp2_with fail
    refine HM2.out.mono ?_
    rintro _ w2 ⟨rfl, hb2⟩
    go_wp2_with fail
    go_ret
    exact ⟨rfl, HB.out.trans (hb2.mono HB.out.size)⟩
set_option maxRecDepth 100000 in
set_option maxHeartbeats 2000000 in
theorem checked_yes (e nw : Int) (ad : Option Addr) (cap : Nat) (l : List Int) (w : World) (h : IsAt w (.slice ad l.length cap) l) (hn : l.length ≤ 1000000) (hm : mayR ⟨e, l, nw⟩ = true) :
    Calls Tryz.prog 89 #[.agg #[.int .i64 e, .slice ad l.length cap, .int .i64 nw]] w fun r w' => r = .returned (.tuple #[.agg #[.int .i64 e, .slice ad l.length cap, .int .i64 nw], .bool true]) ∧ Below w.heap.size w w' := by
  have hb : Below w.heap.size w ((w.alloc (.cells #[.int .i64 e, .slice ad l.length cap, .int .i64 nw] 24)).alloc (.cells #[.int .i64 0, .slice none 0 0, .int .i64 0] 24)) := ((Below.refl _ w).alloc (Nat.le_refl _) _).alloc (by simp) _
  have HB := Lib.hid hb
  have h1 := (RC.new w e ad l.length cap nw 24).alloc (.cells #[.int .i64 0, .slice none 0 0, .int .i64 0] 24)
  have h2 : RC ((w.alloc (.cells #[.int .i64 e, .slice ad l.length cap, .int .i64 nw] 24)).alloc (.cells #[.int .i64 0, .slice none 0 0, .int .i64 0] 24)) (w.heap.size + 1) 0 (.slice none 0 0) 0 := by
    have := RC.new (w.alloc (.cells #[.int .i64 e, .slice ad l.length cap, .int .i64 nw] 24)) 0 none 0 0 0 24
    simpa using this
  have HM := romay_p e nw _ l _ (h.below hb) hn
  rw [hm] at HM
  have HM := Lib.hid HM
  clear h hb hm
  go_enter Tryz.func89, Tryz.ntmps89
  go_wp2_with fail
  generalize (w.alloc (.cells #[.int .i64 e, .slice ad l.length cap, .int .i64 nw] 24)).alloc (.cells #[.int .i64 0, .slice none 0 0, .int .i64 0] 24) = W at *
  have H2 := Lib.hid (And.intro h1 h2)
  obtain ⟨⟨c0, c1, c2⟩, _⟩ := h1
  clear h2
  go_wp2_with fail
  refine HM.out.mono ?_
  rintro _ w2 ⟨rfl, hb2⟩
  have hB2 := HB.out.trans (hb2.mono HB.out.size)
  have k1 := H2.out.1.below hb2
  have k2 := H2.out.2.below hb2
  clear c0 c1 c2 hb2 HM
  obtain ⟨⟨c0, c1, c2⟩, _⟩ := k1
  obtain ⟨⟨d0, d1, d2⟩, f0, f1, f2⟩ := k2
  go_wp2_with fail
  have hB3 := ((hB2.setCell (p := ⟨w.heap.size + 1, 0, none⟩) (by simp) (.int .i64 e)).setCell (p := ⟨w.heap.size + 1, 1, none⟩) (by simp) (.slice ad l.length cap)).setCell (p := ⟨w.heap.size + 1, 2, none⟩) (by simp) (.int .i64 nw)
  have t0 : (((w2.setCell ⟨w.heap.size + 1, 0, none⟩ (.int .i64 e)).setCell ⟨w.heap.size + 1, 1, none⟩ (.slice ad l.length cap)).setCell ⟨w.heap.size + 1, 2, none⟩ (.int .i64 nw)).cell? ⟨w.heap.size + 1, 0, none⟩ = some (.int .i64 e) := by go_simp
  have t1 : (((w2.setCell ⟨w.heap.size + 1, 0, none⟩ (.int .i64 e)).setCell ⟨w.heap.size + 1, 1, none⟩ (.slice ad l.length cap)).setCell ⟨w.heap.size + 1, 2, none⟩ (.int .i64 nw)).cell? ⟨w.heap.size + 1, 1, none⟩ = some (.slice ad l.length cap) := by go_simp
  have t2 : (((w2.setCell ⟨w.heap.size + 1, 0, none⟩ (.int .i64 e)).setCell ⟨w.heap.size + 1, 1, none⟩ (.slice ad l.length cap)).setCell ⟨w.heap.size + 1, 2, none⟩ (.int .i64 nw)).cell? ⟨w.heap.size + 1, 2, none⟩ = some (.int .i64 nw) := by go_simp
  exact bodyPost_ret (v := .tuple #[.agg #[.int .i64 e, .slice ad l.length cap, .int .i64 nw], .bool true]) (by simp [results, Tryz.results89, go_sem, t0, t1, t2]) rfl ⟨rfl, hB3⟩
set_option maxRecDepth 100000 in
set_option maxHeartbeats 2000000 in
theorem checked_no (e nw : Int) (ad : Option Addr) (cap : Nat) (l : List Int) (w : World) (h : IsAt w (.slice ad l.length cap) l) (hn : l.length ≤ 1000000) (hm : mayR ⟨e, l, nw⟩ = false) :
    Calls Tryz.prog 89 #[.agg #[.int .i64 e, .slice ad l.length cap, .int .i64 nw]] w fun r w' => r = .returned (.tuple #[.agg #[.int .i64 0, .slice none 0 0, .int .i64 0], .bool false]) ∧ Below w.heap.size w w' := by
  have hb : Below w.heap.size w ((w.alloc (.cells #[.int .i64 e, .slice ad l.length cap, .int .i64 nw] 24)).alloc (.cells #[.int .i64 0, .slice none 0 0, .int .i64 0] 24)) := ((Below.refl _ w).alloc (Nat.le_refl _) _).alloc (by simp) _
  have HB := Lib.hid hb
  have h1 := (RC.new w e ad l.length cap nw 24).alloc (.cells #[.int .i64 0, .slice none 0 0, .int .i64 0] 24)
  have h2 : RC ((w.alloc (.cells #[.int .i64 e, .slice ad l.length cap, .int .i64 nw] 24)).alloc (.cells #[.int .i64 0, .slice none 0 0, .int .i64 0] 24)) (w.heap.size + 1) 0 (.slice none 0 0) 0 := by
    have := RC.new (w.alloc (.cells #[.int .i64 e, .slice ad l.length cap, .int .i64 nw] 24)) 0 none 0 0 0 24
    simpa using this
  have HM := romay_p e nw _ l _ (h.below hb) hn
  rw [hm] at HM
  have HM := Lib.hid HM
  clear h hb hm
  go_enter Tryz.func89, Tryz.ntmps89
  go_wp2_with fail
  generalize (w.alloc (.cells #[.int .i64 e, .slice ad l.length cap, .int .i64 nw] 24)).alloc (.cells #[.int .i64 0, .slice none 0 0, .int .i64 0] 24) = W at *
  have H2 := Lib.hid (And.intro h1 h2)
  obtain ⟨⟨c0, c1, c2⟩, _⟩ := h1
  clear h2
  go_wp2_with fail
  refine HM.out.mono ?_
  rintro _ w2 ⟨rfl, hb2⟩
  have hB2 := HB.out.trans (hb2.mono HB.out.size)
  have k1 := H2.out.1.below hb2
  have k2 := H2.out.2.below hb2
  clear c0 c1 c2 hb2 HM
  obtain ⟨⟨c0, c1, c2⟩, _⟩ := k1
  obtain ⟨⟨d0, d1, d2⟩, f0, f1, f2⟩ := k2
  go_wp2_with fail
  have hB3 := ((hB2.setCell (p := ⟨w.heap.size + 1, 0, none⟩) (by simp) (.int .i64 0)).setCell (p := ⟨w.heap.size + 1, 1, none⟩) (by simp) (.slice none 0 0)).setCell (p := ⟨w.heap.size + 1, 2, none⟩) (by simp) (.int .i64 0)
  have t0 : (((w2.setCell ⟨w.heap.size + 1, 0, none⟩ (.int .i64 0)).setCell ⟨w.heap.size + 1, 1, none⟩ (.slice none 0 0)).setCell ⟨w.heap.size + 1, 2, none⟩ (.int .i64 0)).cell? ⟨w.heap.size + 1, 0, none⟩ = some (.int .i64 0) := by go_simp
  have t1 : (((w2.setCell ⟨w.heap.size + 1, 0, none⟩ (.int .i64 0)).setCell ⟨w.heap.size + 1, 1, none⟩ (.slice none 0 0)).setCell ⟨w.heap.size + 1, 2, none⟩ (.int .i64 0)).cell? ⟨w.heap.size + 1, 1, none⟩ = some (.slice none 0 0) := by go_simp
  have t2 : (((w2.setCell ⟨w.heap.size + 1, 0, none⟩ (.int .i64 0)).setCell ⟨w.heap.size + 1, 1, none⟩ (.slice none 0 0)).setCell ⟨w.heap.size + 1, 2, none⟩ (.int .i64 0)).cell? ⟨w.heap.size + 1, 2, none⟩ = some (.int .i64 0) := by go_simp
  exact bodyPost_ret (v := .tuple #[.agg #[.int .i64 0, .slice none 0 0, .int .i64 0], .bool false]) (by simp [results, Tryz.results89, go_sem, t0, t1, t2]) rfl ⟨rfl, hB3⟩
end Go.Proofs.YtaacdggjkfmehaaGreatDoor
