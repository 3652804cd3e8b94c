/-
  Chests and rows of texts that lie apart in memory.
-/
import Derived.Test.YtaekieoingflaaaGreatDoorRoll13
import Derived.Lib.SlFresh
import Derived.Test.YtaekieoingflaaaGreatDoorJrA
namespace Go.Proofs.YtaekieoingflaaaGreatDoor
open Go.RowKit Go.Maps Go.Proofs.MapD Go.Proofs.Chest

/-- Something that lies in memory, in some blocks. -/
structure It where
  p : World → List Nat → Prop
  kept : ∀ {w w' : World} {F : List Nat}, p w F → (∀ k ∈ F, w'.heap[k]? = w.heap[k]?) → p w' F
  lt : ∀ {w : World} {F : List Nat}, p w F → ∀ k ∈ F, k < w.heap.size

/-- Some of them, apart. -/
def sep (w : World) : List It → List Nat → Prop
  | [], F => F = []
  | i :: r, F => ∃ A B, F = A ++ B ∧ i.p w A ∧ sep w r B ∧ ∀ k ∈ A, k ∉ B

theorem sep_kept {w w' : World} : ∀ {L : List It} {F : List Nat}, sep w L F → (∀ k ∈ F, w'.heap[k]? = w.heap[k]?) → sep w' L F
  | [], _, h, _ => h
  | i :: r, F, h, hk => by
    obtain ⟨A, B, rfl, h1, h2, h3⟩ := h
    exact ⟨A, B, rfl, i.kept h1 (fun k hm => hk k (by simp [hm])), sep_kept h2 (fun k hm => hk k (by simp [hm])), h3⟩

theorem sep_lt {w : World} : ∀ {L : List It} {F : List Nat}, sep w L F → ∀ k ∈ F, k < w.heap.size
  | [], _, h => by
    subst h
    intro k hk
    cases hk
  | i :: r, F, h => by
    obtain ⟨A, B, rfl, h1, h2, h3⟩ := h
    intro k hk
    rcases List.mem_append.1 hk with hk | hk
    · exact i.lt h1 k hk
    · exact sep_lt h2 k hk

theorem sep_perm {w : World} {L L' : List It} (hp : L.Perm L') : ∀ {F : List Nat}, sep w L F → ∃ F', F.Perm F' ∧ sep w L' F' := by
  induction hp with
  | nil => exact fun {F} h => ⟨F, .refl _, h⟩
  | cons i _ ih =>
    rintro F ⟨A, B, rfl, h1, h2, h3⟩
    obtain ⟨B', h4, h5⟩ := ih h2
    exact ⟨A ++ B', h4.append_left A, A, B', rfl, h1, h5, fun k hk hm => h3 k hk (h4.mem_iff.2 hm)⟩
  | swap i j r =>
    rintro F ⟨A, B, rfl, h1, ⟨C, D, rfl, h2, h4, h5⟩, h3⟩
    refine ⟨C ++ (A ++ D), ?_, C, A ++ D, rfl, h2, ⟨A, D, rfl, h1, h4, fun k hk hm => h3 k hk (by simp [hm])⟩, fun k hk hm => ?_⟩
    · rw [← List.append_assoc, ← List.append_assoc]
      exact List.perm_append_comm.append_right D
    · rcases List.mem_append.1 hm with hm | hm
      · exact h3 k hm (by simp [hk])
      · exact h5 k hk hm
  | trans _ _ ih1 ih2 =>
    intro F h
    obtain ⟨F1, h1, h2⟩ := ih1 h
    obtain ⟨F2, h3, h4⟩ := ih2 h2
    exact ⟨F2, h1.trans h3, h4⟩

/-- Some of them, apart, in blocks that are new since w0; nothing else has turned since then. -/
def Sp (w0 w : World) (L : List It) : Prop := (∃ F, sep w L F ∧ ∀ k ∈ F, w0.heap.size ≤ k) ∧ Below w0.heap.size w0 w

section
variable {w0 w w' : World} {L : List It} {i j : It}

theorem Sp.start (w : World) : Sp w w [] := ⟨⟨[], rfl, by simp⟩, Below.refl _ _⟩

theorem Sp.bl (h : Sp w0 w L) : Below w0.heap.size w0 w := h.2

theorem Sp.below (h : Sp w0 w L) (hb : Below w.heap.size w w') : Sp w0 w' L := by
  obtain ⟨⟨F, h1, h2⟩, h3⟩ := h
  exact ⟨⟨F, sep_kept h1 (fun k hk => hb.block k (sep_lt h1 k hk)), h2⟩, h3.trans (hb.mono h3.size)⟩

theorem Sp.perm {L' : List It} (h : Sp w0 w L) (hp : L.Perm L') : Sp w0 w L' := by
  obtain ⟨⟨F, h1, h2⟩, h3⟩ := h
  obtain ⟨F', h4, h5⟩ := sep_perm hp h1
  exact ⟨⟨F', h5, fun k hk => h2 k (h4.mem_iff.2 hk)⟩, h3⟩

theorem Sp.swap (h : Sp w0 w (i :: j :: L)) : Sp w0 w (j :: i :: L) := h.perm (.swap _ _ _)

theorem Sp.rot {a b c : It} (h : Sp w0 w (a :: b :: c :: L)) : Sp w0 w (c :: a :: b :: L) := h.perm ((List.Perm.swap c b L).cons a |>.trans (.swap c a (b :: L)))

theorem Sp.drop (h : Sp w0 w (i :: L)) : Sp w0 w L := by
  obtain ⟨⟨F, ⟨A, B, rfl, _, h4, _⟩, h2⟩, h3⟩ := h
  exact ⟨⟨B, h4, fun k hk => h2 k (by simp [hk])⟩, h3⟩

theorem Sp.new (h : Sp w0 w L) (hb : Below w.heap.size w w') (hn : ∃ F', i.p w' F' ∧ ∀ k ∈ F', w.heap.size ≤ k) : Sp w0 w' (i :: L) := by
  obtain ⟨⟨F, h1, h2⟩, h3⟩ := h
  obtain ⟨F', h4, h5⟩ := hn
  have := h3.size
  refine ⟨⟨F' ++ F, ⟨F', F, rfl, h4, sep_kept h1 (fun k hk => hb.block k (sep_lt h1 k hk)), fun k hk hm => ?_⟩, fun k hk => ?_⟩, h3.trans (hb.mono h3.size)⟩
  · have h6 := h5 k hk
    have h7 := sep_lt h1 k hm
    omega
  · rcases List.mem_append.1 hk with hk | hk
    · have := h5 k hk; omega
    · exact h2 k hk

/-- The first of them turns, in blocks of its own or new ones. -/
theorem Sp.turn (h : Sp w0 w (i :: L)) : ∃ F, i.p w F ∧ (∀ k ∈ F, w0.heap.size ≤ k) ∧ ∀ (j : It) (w' : World), (∃ F', j.p w' F' ∧ (∀ k ∈ F', k ∈ F ∨ w.heap.size ≤ k) ∧ Only F w w') → Sp w0 w' (j :: L) := by
  obtain ⟨⟨F0, ⟨A, B, rfl, h1, h4, h5⟩, h2⟩, h3⟩ := h
  refine ⟨A, h1, fun k hk => h2 k (by simp [hk]), fun j w' ⟨F', h6, h7, h8⟩ => ?_⟩
  have hs := h3.size
  have hB := sep_lt h4
  refine ⟨⟨F' ++ B, ⟨F', B, rfl, h6, sep_kept h4 (fun k hk => h8.block k (hB k hk) (fun hm => h5 k hm hk)), fun k hk hm => ?_⟩, fun k hk => ?_⟩, h3.trans (h8.below hs (fun k hk => h2 k (by simp [hk])))⟩
  · rcases h7 k hk with h9 | h9
    · exact h5 k h9 hm
    · have := hB k hm; omega
  · rcases List.mem_append.1 hk with hk | hk
    · rcases h7 k hk with h9 | h9
      · exact h2 k (by simp [h9])
      · omega
    · exact h2 k (by simp [hk])

theorem Sp.get (h : Sp w0 w (i :: L)) : ∃ F, i.p w F := by
  obtain ⟨F, h1, _⟩ := h.turn
  exact ⟨F, h1⟩

end

/-- The block of a slice. -/
def rowOf (v : Value) : Option Nat := match v with | .slice (some a) _ _ => some a.block | _ => none

/-- A slice of texts. -/
def Recs (w : World) (v : Value) (l : List ByteArray) : Prop :=
  (v = .slice none 0 0 ∧ l = []) ∨ ∃ g o cap cur, v = .slice (some ⟨g, o, none⟩) l.length cap ∧ w.heap[g]? = some (.cells cur 9 (0, 0)) ∧ l.length ≤ cap ∧ cap ≤ maxLen ∧ o + cap ≤ cur.size ∧
    ∀ j s, l[j]? = some s → cur[o + j]? = some (.string s)

theorem Recs.nil (w : World) : Recs w (.slice none 0 0) [] := .inl ⟨rfl, rfl⟩

theorem Recs.kept {w w' : World} {v : Value} {l : List ByteArray} (h : Recs w v l) (hk : ∀ g, rowOf v = some g → w'.heap[g]? = w.heap[g]?) : Recs w' v l := by
  rcases h with h | ⟨g, o, cap, cur, rfl, h1, h2⟩
  · exact .inl h
  · exact .inr ⟨g, o, cap, cur, rfl, by rw [hk g rfl]; exact h1, h2⟩

theorem Recs.lt {w : World} {v : Value} {l : List ByteArray} (h : Recs w v l) {g : Nat} (hg : rowOf v = some g) : g < w.heap.size := by
  rcases h with ⟨rfl, _⟩ | ⟨g', o, cap, cur, rfl, h1, _⟩
  · cases hg
  · obtain rfl : g' = g := Option.some.inj hg
    exact (Array.getElem?_eq_some_iff.1 h1).1

theorem Recs.shape {w : World} {v : Value} {l : List ByteArray} (h : Recs w v l) : ∃ ad cap, v = .slice ad l.length cap := by
  rcases h with ⟨rfl, rfl⟩ | ⟨g, o, cap, cur, rfl, _⟩
  · exact ⟨_, _, rfl⟩
  · exact ⟨_, _, rfl⟩

theorem Recs.cells {w : World} {v : Value} {l : List ByteArray} (h : Recs w v l) (hl : 0 < l.length) : ∃ g o cap, v = .slice (some ⟨g, o, none⟩) l.length cap ∧ l.length ≤ cap ∧ ∀ j s, l[j]? = some s → w.cell? ⟨g, o + j, none⟩ = some (.string s) := by
  rcases h with ⟨_, rfl⟩ | ⟨g, o, cap, cur, rfl, h1, h2, _, _, h5⟩
  · cases hl
  · exact ⟨g, o, cap, rfl, h2, fun j s hj => by rw [cell_of_row w g (o + j) cur _ (0, 0) h1]; exact h5 j s hj⟩

/-- A row of texts, as something that lies in memory. -/
def rc (v : Value) (l : List ByteArray) : It where
  p w F := Recs w v l ∧ F = (rowOf v).toList
  kept := fun ⟨h, e⟩ hk => ⟨h.kept (fun g hg => hk g (by rw [e, hg]; simp)), e⟩
  lt := fun ⟨h, e⟩ k hk => h.lt (g := k) (by rw [e] at hk; simpa using hk)

/-- A chest, as something that lies in memory. -/
def ch (c : Nat) (st : St) : It where
  p w F := Rep w c F st
  kept := fun h hk => h.kept hk
  lt := fun h => h.lt

theorem infoStr : (Tryz.prog.info? 9).map (fun i => (i.zero, i.size, i.bytes)) = some (some (.string ⟨#[]⟩), 1, 16) := by kernel_rfl

theorem strs_get (l : List ByteArray) (j : Nat) : (l.map Value.string)[j]? = (l[j]?).map Value.string := by simp

/-- One text more at a row's end. -/
theorem append_recs {w : World} {v : Value} {l : List ByteArray} (h : Recs w v l) (hl : l.length ≤ 2000000) (ad : Addr) (c : Nat) (s : ByteArray) (hs : w.cell? ad = some (.string s)) (ty : TypeId) :
    ∃ v' w', (Builtin.append_ #[35, 35] ty #[v, .slice (some ad) 1 c]).run Tryz.prog w = .ok v' w' ∧ Recs w' v' (l ++ [s]) ∧ w.grownBy w' (rowOf v) ∧ (rowOf v' = rowOf v ∨ rowOf v' = some w.heap.size) := by
  obtain ⟨i0, hi, hz0, hz1, hz2⟩ := info_parts infoStr
  have ht : Tryz.prog.underlying 35 = some (.slice 9) := Tryz.underlying35
  have hnews : ∀ j u, [Value.string s][j]? = some u → w.cell? (ad.add j) = some u := by
    intro j u hj
    match j, hj with
    | 0, hj =>
      simp at hj
      subst hj
      simpa [Addr.add] using hs
  have h1 : ∀ u ∈ [Value.string s], u.oneCell' = true := by
    intro u hu
    simp at hu
    subst hu
    rfl
  have hnl : [Value.string s].length = 1 * i0.size := by rw [hz1]; rfl
  -- what a new row is
  have fresh : ∀ (cap : Nat) (zs : Array Value), l.length + 1 ≤ cap → cap ≤ maxLen → zs.size = cap - (l.length + 1) →
      Recs (w.drew.alloc (.cells ((l.map Value.string).toArray ++ #[Value.string s] ++ zs) 9)) (.slice (some ⟨w.heap.size, 0, none⟩) (l.length + 1) cap) (l ++ [s]) := by
    intro cap zs h1 h2 h3
    refine .inr ⟨w.heap.size, 0, cap, (l.map Value.string).toArray ++ #[Value.string s] ++ zs, by simp, heap_alloc_new w.drew _, by simp; omega, h2, ?_, ?_⟩
    · simp only [Array.size_append, List.size_toArray, List.length_map, List.length_cons, List.length_nil, h3]
      omega
    · intro j x hj
      have e1 : ((l.map Value.string).toArray ++ #[Value.string s] ++ zs) = ((l ++ [s]).map Value.string).toArray ++ zs := by simp
      have hj' : j < ((l ++ [s]).map Value.string).toArray.size := by
        have := (List.getElem?_eq_some_iff.1 hj).1
        simpa using this
      rw [Nat.zero_add, e1, Array.getElem?_append_left hj', List.getElem?_toArray, strs_get, hj]
      rfl
  rcases h with ⟨rfl, rfl⟩ | ⟨g, o, cap, cur, rfl, hg, hlc, hcm, hoc, hc⟩
  · have hr := run_append_nil (P := Tryz.prog) w 35 ty 9 i0 (.string ⟨#[]⟩) ht hi hz0 ad 1 c [Value.string s] hnl hnews (by omega) (by omega) (by rw [hz2]; omega)
    refine ⟨_, _, hr, ?_, ⟨rfl, rfl, rfl, by simp, fun k hk _ => Below.heap_alloc w.drew _ k hk⟩, .inr rfl⟩
    have hge := grownCap_ge w 1 0 9
    have hcm := grownCap_le_maxLen w 1 0 9 (by unfold maxLen; omega)
    have := fresh (grownCap w 1 0 9) (Builtin.zeroCells (Value.string ⟨#[]⟩).cells (grownCap w 1 0 9 - 1)) hge hcm (by rw [size_zeroCells]; simp [Value.cells])
    simpa using this
  · by_cases hroom : l.length + 1 ≤ cap
    · have hf := run_firstCells_some (P := Tryz.prog) w i0.size 1 ad 1 c [Value.string s] hnl hnews
      have hst := run_storeCells_at Tryz.prog g (o + l.length) 9 [Value.string s] 0 cur w hg (by simp; omega) h1
      simp only [Nat.add_zero] at hst
      refine ⟨.slice (some ⟨g, o, none⟩) (l.length + 1) cap, w.setRow g (cur.toList.take (o + l.length) ++ [Value.string s] ++ cur.toList.drop (o + l.length + [Value.string s].length)).toArray, ?_, ?_, ⟨rfl, rfl, rfl, by simp, fun k _ hk => setRow_other w g k _ (fun e => hk (by rw [e]; rfl))⟩, .inl rfl⟩
      · simp [Builtin.append_, run_underlying ht, sizeOf, typeInfo, hi, hz1, Builtin.lenOf, hroom, Addr.add_lit]
        rw [hz1] at hf
        rw [hf]
        simp [hst]
      · refine .inr ⟨g, o, cap, _, by simp, setRow_heap w g cur _ 9 _ hg, by simp; omega, hcm, ?_, ?_⟩
        · simp only [List.size_toArray, List.length_append, List.length_take, List.length_drop, Array.length_toList, List.length_singleton]
          omega
        · intro j x hj
          have hjl := (List.getElem?_eq_some_iff.1 hj).1
          simp only [List.length_append, List.length_singleton] at hjl
          rw [List.getElem?_toArray]
          have hcl : cur.toList.length = cur.size := Array.length_toList
          have e1 : (cur.toList.take (o + l.length)).length = o + l.length := by rw [List.length_take, hcl]; omega
          by_cases hj1 : j < l.length
          · rw [List.append_assoc, List.getElem?_append_left (by rw [e1]; omega), List.getElem?_take, if_pos (by omega)]
            rw [List.getElem?_append_left hj1] at hj
            simpa using hc j x hj
          · obtain rfl : j = l.length := by omega
            rw [List.append_assoc, List.getElem?_append_right (by rw [e1]; omega), e1, Nat.sub_self]
            rw [List.getElem?_append_right (Nat.le_refl _), Nat.sub_self] at hj
            simp at hj
            subst hj
            simp
    · have hlen : (l.map Value.string).length = l.length * i0.size := by rw [hz1]; simp
      have holds : ∀ j u, (l.map Value.string)[j]? = some u → w.cell? ((⟨g, o, none⟩ : Addr).add j) = some u := by
        intro j u hj
        rw [strs_get] at hj
        obtain ⟨x, hx, rfl⟩ := Option.map_eq_some_iff.1 hj
        rw [Addr.add_lit, cell_of_row w g (o + j) cur _ (0, 0) hg]
        exact hc j x hx
      have hr := run_append_grow (P := Tryz.prog) w 35 ty 9 i0 (.string ⟨#[]⟩) ht hi hz0 ⟨g, o, none⟩ l.length cap (l.map Value.string) hlen holds ad 1 c [Value.string s] hnl hnews (by omega) (by omega) (growslice_fits (by omega) (by rw [hz2]; omega))
      refine ⟨_, _, hr, ?_, ⟨rfl, rfl, rfl, by simp, fun k hk _ => Below.heap_alloc w.drew _ k hk⟩, .inr rfl⟩
      have hge := grownCap_ge w (l.length + 1) cap 9
      have hcm := grownCap_le_maxLen w (l.length + 1) cap 9 (by unfold maxLen; omega)
      exact fresh (grownCap w (l.length + 1) cap 9) (Builtin.zeroCells (Value.string ⟨#[]⟩).cells (grownCap w (l.length + 1) cap 9 - (l.length + 1))) hge hcm (by rw [size_zeroCells]; simp [Value.cells])

/-- At the operation, for the walk. -/
theorem wpList_append_recs {ops : Array Oper} {rest : List Oper} {o : Oper} {a : Act} {Q : Exit → Act → World → Prop} {w : World} (hgd : o.guard = none) (sl x : Operand)
    (ho : o.op = .call { callee := .builtin .append, args := #[sl, x], argTypes := #[35, 35] }) (v : Value) (l : List ByteArray) (hs : a.eval sl = v) (h : Recs w v l) (hl : l.length ≤ 2000000)
    (ad : Addr) (c : Nat) (s : ByteArray) (hx : a.eval x = .slice (some ad) 1 c) (hc : w.cell? ad = some (.string s))
    (k : ∀ v' w', Recs w' v' (l ++ [s]) → w.grownBy w' (rowOf v) → (rowOf v' = rowOf v ∨ rowOf v' = some w.heap.size) → wpList Tryz.prog ops Q rest (a.put o.dst v') w') : wpList Tryz.prog ops Q (o :: rest) a w := by
  obtain ⟨v', w', hr, h2, h3, h4⟩ := append_recs h hl ad c s hc o.type
  exact Lib.wpList_append_run_sl w hgd sl x 35 ho v _ hs hx hr (k v' w' h2 h3 h4)

#print axioms wpList_append_recs
end Go.Proofs.YtaekieoingflaaaGreatDoor

/-
  A journal in memory, with its chest.
-/
namespace Go.Proofs.YtaekieoingflaaaGreatDoor
open Go.RowKit Go.Maps Go.Proofs.MapD Go.Proofs.Chest

/-- What a journal tells. -/
structure Jr where
  first : ByteArray
  recs : List ByteArray
  long : Nat
  down : Bool

/-- The cells of a journal. -/
def JCells (w : World) (j c : Nat) (v : Value) (r : Jr) : Prop :=
  (w.cell? ⟨j, 0, none⟩ = some (.pointer (some ⟨c, 0, none⟩)) ∧ w.cell? ⟨j, 1, none⟩ = some (.string r.first) ∧ w.cell? ⟨j, 2, none⟩ = some v ∧ w.cell? ⟨j, 3, none⟩ = some (.int .i64 r.long) ∧ w.cell? ⟨j, 4, none⟩ = some (.bool r.down)) ∧
    (w.frozen? ⟨j, 0, none⟩ = false ∧ w.frozen? ⟨j, 1, none⟩ = false ∧ w.frozen? ⟨j, 2, none⟩ = false ∧ w.frozen? ⟨j, 3, none⟩ = false ∧ w.frozen? ⟨j, 4, none⟩ = false)

theorem JCells.kept {w w' : World} {j c : Nat} {v : Value} {r : Jr} (h : JCells w j c v r) (e : w'.heap[j]? = w.heap[j]?) : JCells w' j c v r := by
  obtain ⟨⟨h0, h1, h2, h3, h4⟩, z0, z1, z2, z3, z4⟩ := h
  have k := cell_of_block e
  have f := frozen_of_block e
  exact ⟨⟨by rw [k]; exact h0, by rw [k]; exact h1, by rw [k]; exact h2, by rw [k]; exact h3, by rw [k]; exact h4⟩, by rw [f]; exact z0, by rw [f]; exact z1, by rw [f]; exact z2, by rw [f]; exact z3, by rw [f]; exact z4⟩

theorem JCells.lt {w : World} {j c : Nat} {v : Value} {r : Jr} (h : JCells w j c v r) : j < w.heap.size := World.block_lt_of_cell? w _ h.1.1

def JRep (w : World) (c j : Nat) (G : List Nat) (r : Jr) : Prop := ∃ v, JCells w j c v r ∧ Recs w v r.recs ∧ rowOf v ≠ some j ∧ G = j :: (rowOf v).toList

theorem JRep.kept {w w' : World} {c j : Nat} {G : List Nat} {r : Jr} (h : JRep w c j G r) (hk : ∀ k ∈ G, w'.heap[k]? = w.heap[k]?) : JRep w' c j G r := by
  obtain ⟨v, h1, h2, h3, rfl⟩ := h
  exact ⟨v, h1.kept (hk j (by simp)), h2.kept (fun g hg => hk g (by simp [hg])), h3, rfl⟩

theorem JRep.lt {w : World} {c j : Nat} {G : List Nat} {r : Jr} (h : JRep w c j G r) : ∀ k ∈ G, k < w.heap.size := by
  obtain ⟨v, h1, h2, h3, rfl⟩ := h
  intro k hk
  rcases List.mem_cons.1 hk with rfl | hk
  · exact h1.lt
  · exact h2.lt (g := k) (by simpa using hk)

/-- A journal and its chest, apart. -/
def JC (w : World) (c j : Nat) (st : St) (r : Jr) (H : List Nat) : Prop := ∃ F G, H = F ++ G ∧ (∀ k ∈ F, k ∉ G) ∧ Rep w c F st ∧ JRep w c j G r

theorem JC.kept {w w' : World} {c j : Nat} {st : St} {r : Jr} {H : List Nat} (h : JC w c j st r H) (hk : ∀ k ∈ H, w'.heap[k]? = w.heap[k]?) : JC w' c j st r H := by
  obtain ⟨F, G, rfl, h1, h2, h3⟩ := h
  exact ⟨F, G, rfl, h1, h2.kept (fun k hm => hk k (by simp [hm])), h3.kept (fun k hm => hk k (by simp [hm]))⟩

theorem JC.lt {w : World} {c j : Nat} {st : St} {r : Jr} {H : List Nat} (h : JC w c j st r H) : ∀ k ∈ H, k < w.heap.size := by
  obtain ⟨F, G, rfl, h1, h2, h3⟩ := h
  intro k hk
  rcases List.mem_append.1 hk with hk | hk
  · exact h2.lt k hk
  · exact h3.lt k hk

def jc (c j : Nat) (st : St) (r : Jr) : It where
  p w H := JC w c j st r H
  kept := fun h hk => h.kept hk
  lt := fun h => h.lt

/-- What a call makes of a journal and its chest. -/
def JTurns (w : World) (c j : Nat) (H : List Nat) (st : St) (r : Jr) (w' : World) : Prop := ∃ H', JC w' c j st r H' ∧ (∀ k ∈ H', k ∈ H ∨ w.heap.size ≤ k) ∧ Only H w w'

/-- One turn behind the other. -/
theorem Turns.next {w w1 w2 : World} {c : Nat} {F F1 : List Nat} {st : St} (h1 : ∀ k ∈ F1, k ∈ F ∨ w.heap.size ≤ k) (h2 : Only F w w1) (h3 : Turns w1 c F1 st w2) : Turns w c F st w2 := by
  obtain ⟨F2, h4, h5, h6⟩ := h3
  have := h2.size
  refine ⟨F2, h4, fun k hk => ?_, h2.trans h6 h1⟩
  rcases h5 k hk with h | h
  · exact h1 k h
  · exact .inr (by omega)

theorem Turns.below {w w1 w2 : World} {c : Nat} {F : List Nat} {st : St} (h : Below w.heap.size w w1) (h3 : Turns w1 c F st w2) : Turns w c F st w2 :=
  Turns.next (fun _ hk => .inl hk) (Only.of_below h F) h3

theorem Turns.more {w w1 w2 : World} {c : Nat} {F : List Nat} {st : St} (h3 : Turns w c F st w1) (h : Below w1.heap.size w1 w2) : Turns w c F st w2 := by
  obtain ⟨F2, h4, h5, h6⟩ := h3
  exact ⟨F2, h4.below h, h5, h6.trans (Only.of_below h []) (by simp)⟩

def nLOG : ByteArray := ⟨#[76, 79, 71]⟩
def nNEW : ByteArray := ⟨#[78, 69, 87]⟩
def nOLD : ByteArray := ⟨#[79, 76, 68]⟩

theorem ok_LOG : okName nLOG = true := by kernel_rfl
theorem ok_NEW : okName nNEW = true := by kernel_rfl
theorem ok_OLD : okName nOLD = true := by kernel_rfl

/-- A leaf written at a roll's end, and pressed, or not. -/
def wrS (st : St) (n t : ByteArray) (press : Bool) : Int × St :=
  if (write st n t).1 ≠ 0 ∨ press = false then write st n t else Chest.press (write st n t).2 n

/-- A roll NEW takes the name OLD. -/
def asideS (st : St) : St := (call st nNEW nOLD).2

theorem aside_err (st : St) : (call st nNEW nOLD).1 = 0 ∨ (call st nNEW nOLD).1 = 6 := by
  unfold call
  rw [if_neg (by rw [ok_OLD]; decide)]
  split
  · exact .inr rfl
  · split
    · exact .inl rfl
    · exact .inl rfl

/-- What Open tells, and makes of the chest. -/
def openS (st : St) : Int × St × Jr :=
  match get (asideS st).l nLOG with
  | none => ((wrS (asideS st) nLOG (leafS ⟨#[]⟩) true).1, (wrS (asideS st) nLOG (leafS ⟨#[]⟩) true).2, ⟨⟨#[]⟩, [], (leafS ⟨#[]⟩).size, false⟩)
  | some r =>
    if (walkS r.t.size r.t).2.2 ≠ 0 then ((walkS r.t.size r.t).2.2, asideS st, ⟨⟨#[]⟩, [], 0, false⟩) else
      match (walkS r.t.size r.t).1 with
      | [] => (3, asideS st, ⟨⟨#[]⟩, [], 0, false⟩)
      | f :: l => (0, if (walkS r.t.size r.t).2.1 < r.t.size then (cut (asideS st) nLOG ((walkS r.t.size r.t).2.1 : Nat)).2 else asideS st, ⟨f, l, (walkS r.t.size r.t).2.1, false⟩)

def addS (st : St) (r : Jr) (s : ByteArray) (press : Bool) : Int × St × Jr :=
  if r.down = true then (7, st, r) else if 400000 < s.size then (1, st, r) else
    if (wrS st nLOG (leafS s) press).1 ≠ 0 then ((wrS st nLOG (leafS s) press).1, (wrS st nLOG (leafS s) press).2, ⟨r.first, r.recs, r.long, true⟩)
    else (0, (wrS st nLOG (leafS s) press).2, ⟨r.first, r.recs ++ [s], r.long + (leafS s).size, false⟩)

def jpressS (st : St) (r : Jr) : Int × St × Jr :=
  if r.down = true then (7, st, r) else
    if (Chest.press st nLOG).1 ≠ 0 then ((Chest.press st nLOG).1, (Chest.press st nLOG).2, ⟨r.first, r.recs, r.long, true⟩) else (0, (Chest.press st nLOG).2, r)

def replS (st : St) (t : ByteArray) : Int × St :=
  if (wrS (asideS st) nNEW t true).1 ≠ 0 then wrS (asideS st) nNEW t true else call (wrS (asideS st) nNEW t true).2 nNEW nLOG

def layS (st : St) (r : Jr) (s : ByteArray) : Int × St × Jr :=
  if r.down = true then (7, st, r) else if 400000 < s.size then (1, st, r) else
    if (replS st (leafS s)).1 ≠ 0 then ((replS st (leafS s)).1, (replS st (leafS s)).2, ⟨r.first, r.recs, r.long, true⟩)
    else (0, (replS st (leafS s)).2, ⟨s, [], (leafS s).size, false⟩)

theorem len_wr (st : St) (n t : ByteArray) (p : Bool) : (wrS st n t p).2.l.length ≤ st.l.length + 1 := by
  unfold wrS
  split
  · exact len_write st n t
  · rw [len_press]; exact len_write st n t

theorem len_aside (st : St) : (asideS st).l.length ≤ st.l.length + 1 := len_call st nNEW nOLD

#print axioms len_aside
end Go.Proofs.YtaekieoingflaaaGreatDoor
