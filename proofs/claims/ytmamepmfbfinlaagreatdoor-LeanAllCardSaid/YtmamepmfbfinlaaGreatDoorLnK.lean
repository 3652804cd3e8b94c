/-
  Counts of a law in a row of its own; texts in a row of the call's own.
-/
import Derived.Test.YtmamepmfbfinlaaGreatDoorLnR
import Derived.Laws.OwnMore
namespace Go.Proofs.YtmamepmfbfinlaaGreatDoor
open Go.RowKit Go.Proofs.Cpl

theorem ln_infoStr : (Tryz.prog.info? 9).map (fun i => (i.zero, i.size, i.bytes)) = some (some (.string ⟨#[]⟩), 1, 16) := by kernel_rfl

def scells (l : List ByteArray) : List Value := l.map fun s => Value.string s

theorem scells_append (l m : List ByteArray) : scells (l ++ m) = scells l ++ scells m := by unfold scells; simp

theorem scells_one (l : List ByteArray) : ∀ u ∈ scells l, u.oneCell' = true := by
  intro u hu
  unfold scells at hu
  obtain ⟨s, _, rfl⟩ := List.mem_map.1 hu
  rfl

theorem scells_at {l : List ByteArray} {j : Nat} {s : ByteArray} (h : l[j]? = some s) : (scells l)[j]? = some (.string s) := by
  unfold scells
  rw [List.getElem?_map, h]
  rfl

/-- A slice of texts in a row of the call's own. -/
def SOwn (w : World) (B : Nat) (v : Value) (l : List ByteArray) : Prop := w.ownsRow B 9 1 v l.length (scells l)

theorem SOwn.nil (w : World) (B : Nat) : SOwn w B (.slice none 0 0) [] := World.ownsRow_nil _ _ _ _

theorem SOwn.at {w : World} {B : Nat} {v : Value} {l : List ByteArray} (h : SOwn w B v l) : SsAt w v l := by
  rcases h.2 with ⟨rfl, h0⟩ | ⟨g, cap, cur, rfl, hb, hg, h1, h2, h3, h4⟩
  · exact .inl ⟨rfl, List.length_eq_zero_iff.1 h0⟩
  · have hlt : g < w.heap.size := (Array.getElem?_eq_some_iff.1 hg).1
    refine .inr ⟨g, 0, cap, rfl, hlt, fun j s hj => ?_⟩
    have hc := World.ownsRow.cells h (g := g) rfl
    have := hc j _ (scells_at hj)
    rw [Addr.add_lit] at this
    exact this

theorem SOwn.lt {w : World} {B : Nat} {v : Value} {l : List ByteArray} (h : SOwn w B v l) {g : Nat} (hg : v.ownBlock = some g) : B ≤ g ∧ g < w.heap.size := by
  rcases h.2 with ⟨rfl, _⟩ | ⟨g', cap, cur, rfl, hb, hh, _⟩
  · cases hg
  · cases hg
    exact ⟨hb, (Array.getElem?_eq_some_iff.1 hh).1⟩

theorem SOwn.kept {w w' : World} {B : Nat} {v : Value} {l : List ByteArray} (h : SOwn w B v l) (hk : ∀ g, v.ownBlock = some g → w'.heap[g]? = w.heap[g]?) : SOwn w' B v l := by
  obtain ⟨h1, h2⟩ := h
  refine ⟨h1, ?_⟩
  rcases h2 with h2 | ⟨g, cap, cur, hv, hg, hh, r⟩
  · exact .inl h2
  · exact .inr ⟨g, cap, cur, hv, hg, by rw [hk g (by rw [hv]; rfl)]; exact hh, r⟩

theorem SOwn.below {w w' : World} {B : Nat} {v : Value} {l : List ByteArray} (h : SOwn w B v l) (hb : Below w.heap.size w w') : SOwn w' B v l := h.kept fun g hg => hb.block g (h.lt hg).2

theorem SOwn.shape {w : World} {B : Nat} {v : Value} {l : List ByteArray} (h : SOwn w B v l) : ∃ ad cap, v = .slice ad l.length cap := h.at.shape

theorem str_new (w : World) (s : ByteArray) : ∀ j u, (scells [s])[j]? = some u → (w.alloc (.cells #[.string s] 9)).cell? ((⟨w.heap.size, 0, none⟩ : Addr).add j) = some u :=
  World.news_of_block (B := w.heap.size) (cs := #[.string s]) (t := 9) (fr := (0, 0)) (heap_alloc_new w _)

theorem SOwn.step {wr W3 : World} {B : Nat} {l : List ByteArray} {la : Option Addr} {lc : Nat} {s : ByteArray} {v' : Value} {c1 : Obj} (h : SOwn wr B (.slice la l.length lc) l) (hB : B ≤ wr.heap.size)
    (hown : W3.ownsRow B 9 1 v' (l.length + 1) (scells l ++ scells [s])) (hgrow : (wr.alloc c1).grownBy W3 (Value.slice la l.length lc).ownBlock) :
    ∃ la' lc', v' = .slice la' (l ++ [s]).length lc' ∧ SOwn W3 B (.slice la' (l ++ [s]).length lc') (l ++ [s]) ∧ Below B wr W3 := by
  rw [← scells_append] at hown
  have hL : (l ++ [s]).length = l.length + 1 := by simp
  have ho : SOwn W3 B v' (l ++ [s]) := by unfold SOwn; rw [hL]; exact hown
  obtain ⟨la', lc', rfl⟩ := ho.shape
  exact ⟨la', lc', rfl, ho, ((Below.refl B wr).alloc hB c1).grown hgrow (by simp; omega) (fun j hj => (h.lt hj).1)⟩

/-- Block b counts for each of a chain how often it stands in ps. -/
def CnAt (w : World) (b : Nat) (L ps : List Int) : Prop := b < w.heap.size ∧ ∀ j x, L[j]? = some x → w.cell? ⟨b, j, none⟩ = some (.int .i64 (cntI ps x : Int)) ∧ w.frozen? ⟨b, j, none⟩ = false

theorem CnAt.kept {w w' : World} {b : Nat} {L ps : List Int} (h : CnAt w b L ps) (hs : w.heap.size ≤ w'.heap.size) (hk : w'.heap[b]? = w.heap[b]?) : CnAt w' b L ps := by
  refine ⟨Nat.lt_of_lt_of_le h.1 hs, fun j x hx => ?_⟩
  rw [World.cell?_of_block (w := w) (a := ⟨b, j, none⟩) hk, World.frozen?_of_block (w := w) (a := ⟨b, j, none⟩) hk]
  exact h.2 j x hx

theorem CnAt.below {w w' : World} {b : Nat} {L ps : List Int} (h : CnAt w b L ps) (hb : Below w.heap.size w w') : CnAt w' b L ps := h.kept hb.size (hb.block b h.1)

theorem ln_make (n : Nat) (hn : n ≤ 1000) (w : World) : (Instr.makeSlice 22 (.int .i64 (n : Int)) (.int .i64 (n : Int))).run Tryz.prog w = .ok (.slice (some ⟨w.heap.size, 0, none⟩) n n) (w.alloc (.cells (madeCells #[.int .i64 0] n) 3)) := by
  obtain ⟨i0, hi, hz0, hz1, hz2⟩ := int_info
  have h := run_make (P := Tryz.prog) w 22 3 i0 (.int .i64 0) Tryz.underlying22 hi hz0 .i64 .i64 n n (by omega) (by omega) (by rw [hz2]; omega) (by omega)
  rw [hz1, Nat.mul_one, Int.toNat_natCast] at h
  exact h

theorem CnAt.made (w : World) (L : List Int) : CnAt (w.alloc (.cells (madeCells #[.int .i64 0] L.length) 3)) w.heap.size L [] := by
  refine ⟨by simp, fun j x hx => ?_⟩
  have hj : j < L.length := (List.getElem?_eq_some_iff.1 hx).1
  constructor
  · rw [World.cell?_alloc_at _ _ _ _ rfl]
    unfold madeCells
    rw [Array.getElem?_map, Array.getElem?_range]
    simp [hj, Nat.mod_one, cntI]
  · have hb := heap_alloc_new w (.cells (madeCells #[.int .i64 0] L.length) 3)
    unfold World.frozen?
    rw [hb]
    simp

theorem CnAt.put {w : World} {b : Nat} {L ps : List Int} (h : CnAt w b L ps) (hp : L.Pairwise (· ≠ ·)) {j : Nat} {p : Int} (hj : L[j]? = some p) : CnAt (w.setCell ⟨b, j, none⟩ (.int .i64 ((cntI ps p : Int) + 1))) b L (ps ++ [p]) := by
  refine ⟨by simpa using h.1, fun k x hx => ?_⟩
  obtain ⟨c0, f0⟩ := h.2 k x hx
  obtain ⟨c1, f1⟩ := h.2 j p hj
  rw [cntI_snoc]
  by_cases e : k = j
  · subst e
    rw [hj] at hx
    cases hx
    rw [if_pos rfl]
    refine ⟨?_, by go_simp⟩
    have : ((cntI ps p + 1 : Nat) : Int) = (cntI ps p : Int) + 1 := by omega
    rw [this]
    go_simp
  · have hne : p ≠ x := by
      have hk := (List.getElem?_eq_some_iff.1 hx)
      have hj' := (List.getElem?_eq_some_iff.1 hj)
      obtain ⟨k1, k2⟩ := hk
      obtain ⟨j1, j2⟩ := hj'
      have hpp := List.pairwise_iff_getElem.1 hp
      rcases Nat.lt_or_gt_of_ne e with h1 | h1
      · have := hpp k j k1 j1 h1
        rw [k2, j2] at this
        exact fun e => this e.symm
      · have := hpp j k j1 k1 h1
        rw [k2, j2] at this
        exact this
    rw [if_neg hne, Nat.add_zero]
    constructor
    · go_simp
    · go_simp

/-- The first keys, cut. -/
def keysI (cs : Nat → ByteArray) (k : Nat) : List ByteArray := (List.range k).map fun i => cutS (cs i) 40

theorem keysI_len (cs : Nat → ByteArray) (k : Nat) : (keysI cs k).length = k := by unfold keysI; simp

theorem keysI_step (cs : Nat → ByteArray) (k : Nat) : keysI cs (k + 1) = keysI cs k ++ [cutS (cs k) 40] := by
  unfold keysI
  rw [List.range_succ, List.map_append, List.map_singleton]

theorem keysI_size (cs : Nat → ByteArray) (k : Nat) : ∀ s ∈ keysI cs k, s.size ≤ maxLen := by
  intro s hs
  unfold keysI at hs
  obtain ⟨i, _, rfl⟩ := List.mem_map.1 hs
  have := cutS_size (cs i) 40
  unfold maxLen
  omega

/-- The place of one of a chain. -/
theorem ix_mem {l : List Int} {p : Int} (h : mayNs l = true) (hp : p ∈ l) : ∃ j : Nat, j < l.length ∧ l[j]? = some p ∧ ixI l p = (j : Int) := by
  obtain ⟨j, hj, rfl⟩ := List.getElem_of_mem hp
  have hx : l[j]? = some l[j] := List.getElem?_eq_getElem hj
  exact ⟨j, hj, hx, (mayNs_at h hx).2.2.2⟩

end Go.Proofs.YtmamepmfbfinlaaGreatDoor
