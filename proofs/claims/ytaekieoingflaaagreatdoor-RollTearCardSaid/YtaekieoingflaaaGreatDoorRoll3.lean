/-
  roll's copied, shorten; a text's append; Write.
-/
import Derived.Test.YtaekieoingflaaaGreatDoorRoll2
namespace Go.Proofs.YtaekieoingflaaaGreatDoor
open Go.RowKit Go.Maps Go.Proofs.MapD Go.Proofs.Chest

theorem infoRU8 : (Tryz.prog.info? 5).map (fun i => (i.zero, i.size, i.bytes)) = some (some (.int .u8 0), 1, 1) := by kernel_rfl

theorem cells_append (t s : ByteArray) : Lib.strCells (t ++ s) = Lib.strCells t ++ Lib.strCells s := by
  unfold Lib.strCells
  rw [ByteArray.data_append, Array.toList_append, List.map_append]

set_option maxRecDepth 100000 in
/-- A text onto which a string is laid: where it lies then. -/
theorem run_text_append {w : World} {v : Value} {t : ByteArray} (h : Text w v t) (s : ByteArray) (hs : t.size + s.size ≤ 100000000) (ty : TypeId) :
    ∃ v' w', (Builtin.append_ #[50, 9] ty #[v, .string s]).run Tryz.prog w = .ok v' w' ∧ Text w' v' (t ++ s) ∧ w.grownBy w' v.ownBlock ∧ (∀ g, v'.ownBlock = some g → v.ownBlock = some g ∨ w.heap.size ≤ g) := by
  obtain ⟨i0, hi, hz0, hz1, hz2⟩ := info_parts infoRU8
  have hmax : t.size + s.size ≤ maxLen := by unfold maxLen; omega
  obtain ⟨v', w', hr, ho, hg, hn⟩ := Lib.run_append_own_string (P := Tryz.prog) w 0 50 9 ty 5 i0 Tryz.underlying50 Tryz.underlying9 hi hz0 hz1 hz2 v t.size _ h s hmax (by omega) (Nat.zero_le _)
  refine ⟨v', w', hr, ?_, hg, ?_⟩
  · unfold Text
    rw [ByteArray.size_append, cells_append]
    exact ho
  · intro g hg'
    rcases h.2 with ⟨rfl, h0⟩ | ⟨g0, cap, cur, rfl, _, hh, hnc, hcm, hcs, htk⟩
    · right
      have hown : w.ownsRow w.heap.size 5 1 (.slice none 0 0) t.size (Lib.strCells t) := ⟨h.1, .inl ⟨rfl, h0⟩⟩
      obtain ⟨v2, w2, hr2, ho2, _⟩ := Lib.run_append_own_string (P := Tryz.prog) w w.heap.size 50 9 ty 5 i0 Tryz.underlying50 Tryz.underlying9 hi hz0 hz1 hz2 _ t.size _ hown s hmax (by omega) (Nat.le_refl _)
      rw [hr] at hr2
      injection hr2 with e1 e2
      subst e1
      rcases ho2.2 with ⟨rfl, _⟩ | ⟨g1, _, _, rfl, hb, _⟩
      · cases hg'
      · cases hg'
        exact hb
    · by_cases hroom : t.size + s.size ≤ cap
      · left
        have hr2 := Lib.run_append_room_string (P := Tryz.prog) (w := w) 50 9 ty 5 i0 Tryz.underlying50 Tryz.underlying9 hi hz1 g0 t.size cap cur hh s hroom (by omega)
        rw [hr] at hr2
        injection hr2 with e1 e2
        rw [e1] at hg'
        exact hg'
      · right
        have holds : ∀ j u, (Lib.strCells t)[j]? = some u → w.cell? ((⟨g0, 0, none⟩ : Addr).add j) = some u := h.cells (g := g0) rfl
        have hr2 := Lib.run_append_grow_string (P := Tryz.prog) (w := w) 50 9 ty 5 i0 (.int .u8 0) Tryz.underlying50 Tryz.underlying9 hi hz0 ⟨g0, 0, none⟩ t.size cap _ (by rw [hz1, Lib.strCells_length, Nat.mul_one]) holds s (by omega) (by omega) (by rw [hz2]; exact growslice_fits (by omega) (by omega))
        rw [hr] at hr2
        injection hr2 with e1 e2
        rw [e1] at hg'
        cases hg'
        exact Nat.le_refl _

/-- .. at the operation. -/
theorem wpList_text_append {ops : Array Oper} {rest : List Oper} {o : Oper} {a : Act} {Q : Exit → Act → World → Prop} {w : World} (hgd : o.guard = none) (sl x : Operand)
    (ho : o.op = .call { callee := .builtin .append, args := #[sl, x], argTypes := #[50, 9] }) (v : Value) (t s : ByteArray) (hv : a.eval sl = v) (hx : a.eval x = .string s) (ht : Text w v t) (hs : t.size + s.size ≤ 100000000)
    (h : ∀ v' w', Text w' v' (t ++ s) → w.grownBy w' v.ownBlock → (∀ g, v'.ownBlock = some g → v.ownBlock = some g ∨ w.heap.size ≤ g) → wpList Tryz.prog ops Q rest (a.put o.dst v') w') : wpList Tryz.prog ops Q (o :: rest) a w := by
  refine wpList_plain hgd fun K hK => ?_
  obtain ⟨v', w', hr, h2, h3, h4⟩ := run_text_append ht s hs o.type
  unfold Oper.wp execOp
  simp only [ho, resolve, invoke, builtin, Sem.run_bind, Sem.run_pure, Result.andThen_ok, List.map_toArray, List.map_cons, List.map_nil, hv, hx, hr]
  exact hK _ _ (h v' w' h2 h3 h4)

theorem text_nil (w : World) : Text w (.slice none 0 0) ⟨#[]⟩ := ⟨rfl, .inl ⟨rfl, rfl⟩⟩

set_option maxRecDepth 100000 in
set_option maxHeartbeats 4000000 in
theorem copied_p {w : World} {v : Value} {t : ByteArray} (h : Text w v t) (hs : t.size ≤ 10000000) :
    Calls Tryz.prog 37 #[v] w fun x w' => ∃ v', x = .returned v' ∧ Text w' v' t ∧ Below w.heap.size w w' ∧ (∀ g, v'.ownBlock = some g → w.heap.size ≤ g) := by
  have hw0 : (w.alloc (.cells #[] 5)).ownsRow w.heap.size 5 1 (.slice (some ⟨w.heap.size, 0, none⟩) 0 0) 0 [] := ⟨rfl, .inr ⟨w.heap.size, 0, #[], rfl, Nat.le_refl _, heap_alloc_new w _, Nat.le_refl _, Nat.zero_le _, rfl, rfl⟩⟩
  have hbw : Below w.heap.size w (w.alloc (.cells #[] 5)) := (Below.refl _ _).alloc (Nat.le_refl _) _
  obtain ⟨i0, hi, hz0, hz1, hz2⟩ := info_parts infoRU8
  rcases h.2 with ⟨rfl, h0⟩ | ⟨g, cap, cur, rfl, _, hh, hnc, hcm, hcs, htk⟩
  · have ht : Lib.strCells t = [] := List.eq_nil_of_length_eq_zero (by rw [Lib.strCells_length]; exact h0)
    have hf : Text (w.alloc (.cells #[] 5)) (.slice (some ⟨w.heap.size, 0, none⟩) 0 0) t := by
      unfold Text
      rw [h0, ht]
      exact ⟨hw0.1, by rcases hw0.2 with h1 | ⟨g, cap, cur, h1, _, h2⟩; exact .inl h1; exact .inr ⟨g, cap, cur, h1, Nat.zero_le _, h2⟩⟩
    have HF := Lib.hid hf
    have HW := Lib.hid hw0
    have HI := Lib.hid hi
    have HB := Lib.hid hbw
    clear ht hf hw0 h hi hbw h0
    go_enter Tryz.func37, Tryz.ntmps37
    go_wp2
    go_ret
    exact ⟨_, rfl, HF.out, HB.out, fun g hg => by cases hg; exact Nat.le_refl _⟩
  · have hcells : ∀ j u, (Lib.strCells t)[j]? = some u → (w.alloc (.cells #[] 5)).cell? ((⟨g, 0, none⟩ : Addr).add j) = some u := fun j u hj => by
      have h1 := h.cells (g := g) rfl j u hj
      rw [World.cell?_alloc_lt _ _ _ (World.block_lt_of_cell? w _ h1)]
      exact h1
    have HC := Lib.hid hcells
    have HW := Lib.hid hw0
    have HI := Lib.hid hi
    have HB := Lib.hid hbw
    have hl : (Lib.strCells t).length = t.size * 1 := by rw [Lib.strCells_length, Nat.mul_one]
    have HL := Lib.hid hl
    clear hcells hw0 hi hbw hl h htk hh hcs
    go_enter Tryz.func37, Tryz.ntmps37
    go_wp2_with (at_builtin; refine wpList_append_own_at _ rfl _ _ 50 rfl w.heap.size 5 i0 _ 1 1 Tryz.underlying50 HI.out hz0 hz1 hz2 rfl (by decide) _ 0 [] rfl HW.out ⟨g, 0, none⟩ t.size cap (Lib.strCells t) rfl HL.out HC.out (Lib.strCells_oneCell t) (by unfold maxLen; omega) (by omega) (by simp) ?_; intro v' w1 hown hgrow hnil hloc)
    simp only [Nat.zero_add, List.nil_append] at hown
    have hf : Text w1 v' t := ⟨hown.1, by rcases hown.2 with h1 | ⟨g, cap, cur, h1, _, h2⟩; exact .inl h1; exact .inr ⟨g, cap, cur, h1, Nat.zero_le _, h2⟩⟩
    have hb : Below w.heap.size w w1 := HB.out.grown hgrow HB.out.size (fun k hk => by cases hk; exact Nat.le_refl _)
    have hg : ∀ g, v'.ownBlock = some g → w.heap.size ≤ g := fun g hg => by
      rcases hown.2 with ⟨rfl, _⟩ | ⟨g1, _, _, rfl, h1, _⟩
      · cases hg
      · cases hg; exact h1
    have HF := Lib.hid (And.intro hf (And.intro hb hg))
    clear hf hb hg hown hgrow hnil hloc
    go_wp2
    go_ret
    exact ⟨_, rfl, HF.out⟩

theorem cells_cut (t : ByteArray) (n : Nat) : (Lib.strCells t).take n = Lib.strCells (t.extract 0 n) := by
  unfold Lib.strCells
  rw [← List.map_take, ByteArray.data_extract, Array.toList_extract]
  simp

/-- The first bytes of a text, in its own memory. -/
theorem text_cut {w : World} {t : ByteArray} {g cap : Nat} (h : Text w (.slice (some ⟨g, 0, none⟩) t.size cap) t) (n : Nat) (hn : n ≤ t.size) : Text w (.slice (some ⟨g, 0, none⟩) n cap) (t.extract 0 n) := by
  rcases h.2 with ⟨h1, _⟩ | ⟨g0, cap0, cur, h1, _, hh, hnc, hcm, hcs, htk⟩
  · cases h1
  · cases h1
    have hz : (t.extract 0 n).size = n := by rw [ByteArray.size_extract]; omega
    refine ⟨by rw [Lib.strCells_length, Nat.mul_one], .inr ⟨g, cap, cur, by rw [hz], Nat.zero_le _, hh, by omega, hcm, hcs, ?_⟩⟩
    rw [hz, ← cells_cut t n, ← htk, List.take_take]
    congr 1
    omega

theorem extract_all (t : ByteArray) : t.extract 0 t.size = t := by
  apply ByteArray.ext
  rw [ByteArray.data_extract]
  apply Array.ext'
  rw [Array.toList_extract]
  simp
  exact List.take_of_length_le (by simp)

set_option maxRecDepth 100000 in
set_option maxHeartbeats 4000000 in
theorem shorten_p {w : World} {v : Value} {t : ByteArray} (h : Text w v t) (hs : t.size ≤ 10000000) (n : Nat) (hn : n ≤ t.size) :
    Calls Tryz.prog 58 #[v, .int .i64 n] w fun x w' => ∃ v', x = .returned v' ∧ Text w' v' (t.extract 0 n) ∧ Below w.heap.size w w' ∧ (∀ g, v'.ownBlock = some g → v.ownBlock = some g ∨ w.heap.size ≤ g) := by
  have h' := h
  rcases h.2 with ⟨rfl, h0⟩ | ⟨g, cap, cur, rfl, _, hh, hnc, hcm, hcs, htk⟩
  · obtain rfl : n = 0 := by omega
    have hf : Text w (.slice none 0 0) (t.extract 0 0) := by
      have : t.extract 0 0 = t := by
        have := extract_all t
        rw [h0] at this
        exact this
      rw [this]
      exact h
    have HF := Lib.hid hf
    clear hf h h' h0 hn
    go_enter Tryz.func58, Tryz.ntmps58
    go_wp2
    go_ret
    exact ⟨_, rfl, HF.out, Below.refl _ _, fun g hg => .inl hg⟩
  · have HF := Lib.hid (text_cut h' n hn)
    have hz : (t.extract 0 n).size ≤ 10000000 := by rw [ByteArray.size_extract]; omega
    have HC := Lib.hid (copied_p HF.out hz)
    generalize t.size = T at *
    unfold maxLen at hcm
    clear h h' hh hcs htk hs hz
    by_cases hlt : n < cap / 4
    · have hlt' : (n : Int) < (cap : Int) / 4 := by omega
      go_enter Tryz.func58, Tryz.ntmps58
      go_wp2_with (go_at_call 37; refine HC.out.mono ?_; rintro _ w1 ⟨v', rfl, h1, h2, h3⟩)
      go_ret
      exact ⟨_, rfl, h1, h2, fun g hg => .inr (h3 g hg)⟩
    · have hlt' : ¬ (n : Int) < (cap : Int) / 4 := by omega
      go_enter Tryz.func58, Tryz.ntmps58
      go_wp2
      go_ret
      exact ⟨_, rfl, HF.out, Below.refl _ _, fun g hg => .inl hg⟩

end Go.Proofs.YtaekieoingflaaaGreatDoor
