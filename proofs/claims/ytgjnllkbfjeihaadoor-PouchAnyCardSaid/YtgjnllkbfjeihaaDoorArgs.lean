/-
  Trees that are read from memory: an argument's cells.
-/
import Derived.Test.YtgjnllkbfjeihaaDoorBack
import Derived.Deep.Slices
import Derived.Lib.SmallJoins
namespace Go.Proofs.YtgjnllkbfjeihaaDoor
open Go.RowKit Go.ChangeShapes Go.WideShapes Go.Deep Go.Joins

section
variable {H : Type} {enc : TypeId × Value → H} {W : World}

theorem wAll_mem {P : Program} {e : TypeId} : ∀ {l : List (DataW H)} {d : DataW H}, d ∈ l → ∀ n ∈ d.weights P e, n ∈ DataW.weightsAll P e l
  | [], _, h, _, _ => by cases h
  | x :: r, d, h, n, hn => by
    unfold DataW.weightsAll
    rcases List.mem_cons.1 h with rfl | h
    · exact List.mem_append_left _ hn
    · exact List.mem_append_right _ (wAll_mem h n hn)

theorem bytesVal : Tryd.prog.bytesOf 24 = 56 := by kernel_rfl
theorem cellsVal : Tryd.prog.cellsOf 24 = 4 := by kernel_rfl

/-- A list of values, as a datum, lies so in memory. -/
def ReadL (W : World) (v : Value) : Prop := ∃ (ad : Option Addr) (l : F) (cap : Nat), v = .slice ad l.len cap ∧ RepS W ad l ∧ l.len * 56 ≤ 140737488355328 ∧ l.fit ∧ l.wf

set_option maxRecDepth 100000 in
theorem read_val {fuel : Nat} {cs : List Value} {x : DataW H × List MemPlace} (h : DataW.trod enc Tryd.prog W 0 (fun _ => true) true fuel 24 cs = some x) :
    ∃ (k n : Int) (s : ByteArray) (c : Value) (m : Nat) (y : DataW H × List MemPlace), cs = [.int .i64 k, .int .i64 n, .string s, c] ∧ (-9223372036854775808 ≤ n ∧ n ≤ 9223372036854775807) ∧
      x.1 = .agg [.lit (.int .i64 k), .lit (.int .i64 n), .lit (.string s.data.toList), y.1] ∧ DataW.trod enc Tryd.prog W 0 (fun _ => true) true m 22 [c] = some y := by
  obtain ⟨y0, y1, y2, y3, m, rfl, hl, h0, h1, h2, h3⟩ := trod_struct4 Tryd.underlying24 h
  rw [cellsVal] at hl
  match cs, hl with
  | [c0, c1, c2, c3], _ =>
    have k1 : Tryd.prog.cellsOf 3 = 1 := by kernel_rfl
    have k2 : Tryd.prog.cellsOf 2 = 1 := by kernel_rfl
    have k3 : Tryd.prog.cellsOf 9 = 1 := by kernel_rfl
    have k4 : Tryd.prog.cellsOf 22 = 1 := by kernel_rfl
    simp only [k1, k2, k3, k4] at h0 h1 h2 h3
    simp at h0 h1 h2 h3
    obtain ⟨a0, e0, rfl, w0⟩ := DataW.trod_int Tryd.underlying3 h0
    obtain ⟨a1, e1, rfl, w1⟩ := DataW.trod_int Tryd.underlying2 h1
    obtain ⟨a2, e2, rfl, w2⟩ := DataW.trod_string Tryd.underlying9 h2
    simp at e0 e1 e2
    subst e0 e1 e2
    refine ⟨a0, a1, a2, c3, m, y3, rfl, ?_, rfl, h3⟩
    exact bounds_i64 w1

theorem read_list : ∀ (z : Nat) (x : DataW H × List MemPlace) (fuel : Nat) (v : Value), SizeOf.sizeOf x.1 < z → DataW.trod enc Tryd.prog W 0 (fun _ => true) true fuel 22 [v] = some x →
    (∀ q ∈ x.1.weights Tryd.prog 22, q ≤ reachBytes) → ReadL W v
  | 0, _, _, _, h, _, _ => absurd h (Nat.not_lt_zero _)
  | z + 1, x, fuel, v, hz, h, hw => by
    rcases open_slice Tryd.underlying22 h with ⟨hc, hx⟩ | ⟨a, len, cap, m, n, D, Pl, hc, _, hl, hm, hmm, rfl, hx⟩
    · simp at hc
      subst hc
      exact ⟨none, .nil, 0, rfl, .inl rfl, by simp [F.len], trivial, trivial⟩
    · simp at hc
      subst hc
      simp only [if_true] at hmm
      subst hmm
      rw [cellsVal] at hx
      have hbytes : m * 56 ≤ 140737488355328 := by
        have := hw (m * 56) (by
          simp only [DataW.weights, Tryd.underlying22, bytesVal]
          simp only [List.length_map, List.length_range]
          rw [show len + (m - len) = m by omega]
          exact List.mem_cons_self)
        simp only [reachBytes] at this
        omega
      have key : ∀ i, i < len → ∃ k n' s l, W.cells? 0 (a.add (i * 4)) 4 = some [.int .i64 k, .int .i64 n', .string s, l] ∧ (-9223372036854775808 ≤ n' ∧ n' ≤ 9223372036854775807) ∧ ReadL W l := by
        intro i hi
        obtain ⟨cs', h1, h2⟩ := hx i (by omega)
        obtain ⟨k, n', s, c, m', y, rfl, hn, he, hy⟩ := read_val h2
        refine ⟨k, n', s, c, h1, hn, ?_⟩
        simp only at he
        have hmem : D i ∈ (List.range len).map D := List.mem_map.2 ⟨i, List.mem_range.2 hi, rfl⟩
        refine read_list z y m' c ?_ hy ?_
        · have s1 := List.sizeOf_lt_of_mem hmem
          have s2 : SizeOf.sizeOf y.1 < SizeOf.sizeOf (D i) := by
            rw [he]
            simp only [DataW.agg.sizeOf_spec, List.cons.sizeOf_spec]
            omega
          simp only [DataW.slice.sizeOf_spec] at hz
          omega
        · intro q hq
          refine hw q ?_
          simp only [DataW.weights, Tryd.underlying22]
          refine List.mem_cons_of_mem _ (List.mem_append_left _ (wAll_mem hmem q ?_))
          rw [he]
          simp only [DataW.weights, Tryd.underlying24]
          simp only [List.map_cons, List.map_nil, DataW.weightsEach, List.mem_append]
          simp [hq]
      by_cases h0 : len = 0
      · subst h0
        exact ⟨some a, .nil, m, rfl, .inl rfl, by simp [F.len], trivial, trivial⟩
      · obtain ⟨b, o, spot⟩ := a
        have hspot : spot = none := by
          obtain ⟨k, n', s, l, h1, _⟩ := key 0 (by omega)
          have := (World.cells?_some h1).2.2 0 (by omega)
          simpa [Addr.add] using World.cell?_spot this
        subst hspot
        have tail : ∀ j, j ≤ len → ∃ f : F, f.len = j ∧ RepF W b (o + (len - j) * 4) f ∧ f.fit ∧ f.wf := by
          intro j
          induction j with
          | zero => intro _; exact ⟨.nil, rfl, trivial, trivial, trivial⟩
          | succ j ih =>
            intro hj
            obtain ⟨f, f1, f2, f3, f4⟩ := ih (by omega)
            obtain ⟨k, n', s, l, h1, h2, ad, g, cp, rfl, g1, g2, g3, g4⟩ := key (len - (j + 1)) (by omega)
            have hc := (World.cells?_some h1).2.2
            have c0 := hc 0 (by omega)
            have c1 := hc 1 (by omega)
            have c2 := hc 2 (by omega)
            have c3 := hc 3 (by omega)
            rw [add_add] at c0 c1 c2 c3
            have ff (i : Nat) : (⟨b, o, none⟩ : Addr).add i = ⟨b, o + i, none⟩ := by unfold Addr.add; split <;> simp_all
            simp only [ff] at c0 c1 c2 c3
            refine ⟨.cons k n' s g f, by simp only [F.len, f1], ⟨c0, c1, c2, ⟨ad, cp, c3, ?_⟩, ?_⟩, ⟨⟨g2, g3⟩, f3⟩, ⟨h2, g4, f4⟩⟩
            · rcases g1 with g1 | ⟨b', o', e, g1⟩
              · exact .inl g1
              · exact .inr ⟨b', o', e, g1⟩
            · rw [show o + (len - (j + 1)) * 4 + 4 = o + (len - j) * 4 by omega]
              exact f2
        obtain ⟨f, f1, f2, f3, f4⟩ := tail len (Nat.le_refl _)
        refine ⟨some ⟨b, o, none⟩, f, m, by rw [f1], .inr ⟨b, o, rfl, by simpa using f2⟩, by omega, f3, f4⟩

end
end Go.Proofs.YtgjnllkbfjeihaaDoor
