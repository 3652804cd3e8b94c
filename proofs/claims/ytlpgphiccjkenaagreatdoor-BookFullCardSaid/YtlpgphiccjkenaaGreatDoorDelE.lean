/-
 Contracts of the program, and what they rest on.
-/
import Derived.Test.YtlpgphiccjkenaaGreatDoorM11
set_option maxRecDepth 100000
set_option maxHeartbeats 16000000
namespace Go.Proofs.YtlpgphiccjkenaaGreatDoor
open Go.RowKit
theorem ent_clear (w : World) (g o c : Nat) (ty : TypeId) (hc : ∀ j, j < 2 → (w.cell? ⟨g, o + j, none⟩).isSome = true) (hf : ∀ j, j < 2 → w.frozen? ⟨g, o + j, none⟩ = false) :
  (Builtin.clear_ #[23] ty #[.slice (some ⟨g, o, none⟩) 1 c]).run Tryz.prog w = .ok (.tuple #[]) (w.setCells g o [.string ⟨#[]⟩, .slice none 0 0]) := by
 have hst := run_storeCells_cells (P := Tryz.prog) g o [.string ⟨#[]⟩, .slice none 0 0] 0 w (by simpa using hc) (by simpa using hf) (by intro v hv; simp at hv; rcases hv with rfl | rfl <;> rfl)
 simp only [Nat.add_zero] at hst
 have hz : (Builtin.zeroCells (Value.agg #[.string ⟨#[]⟩, .slice none 0 0]).cells 1).toList = [.string ⟨#[]⟩, .slice none 0 0] := by kernel_rfl
 simp [Builtin.clear_, run_underlying Tryz.underlying23, hz, hst]
theorem ent_cut {w : World} {B g cap k r : Nat} {cs : List Value} (h : w.ownsRow B 45 2 (.slice (some ⟨g, 0, none⟩) (k + 1 + r) cap) (k + 1 + r) cs) :
  ((w.setCells g (k * 2) (cs.drop ((k + 1) * 2))).setCells g ((k + r) * 2) [.string ⟨#[]⟩, .slice none 0 0]).ownsRow B 45 2 (.slice (some ⟨g, 0, none⟩) (k + r) cap) (k + r) (cs.take (k * 2) ++ cs.drop ((k + 1) * 2)) := by
 obtain ⟨h1, h2⟩ := h
 rcases h2 with ⟨h2, _⟩ | ⟨g', cap', cur, hv, hB, hg, hn, hm, hs, ht⟩
 ·cases h2
 ·simp only [Value.slice.injEq, Option.some.injEq, Addr.mk.injEq] at hv
  obtain ⟨⟨rfl, _⟩, _, rfl⟩ := hv
  have e1 : (cs.drop ((k + 1) * 2)).length = r * 2 := by rw [List.length_drop, h1]; omega
  have c1 := heap_setCells (cs.drop ((k + 1) * 2)) (k * 2) w cur hg
  have c2 := heap_setCells [.string ⟨#[]⟩, .slice none 0 0] ((k + r) * 2) _ _ c1
  refine ⟨by rw [List.length_append, List.length_take, e1, h1]; omega, .inr ⟨g, cap, _, rfl, hB, c2, by omega, hm, by rw [wr_size, wr_size, hs], ?_⟩⟩
  rw [wr_list _ _ _ (by rw [wr_size, hs]; show (k + r) * 2 + 2 ≤ cap * 2; omega), wr_list _ _ _ (by rw [e1, hs]; omega)]
  have hcur : cur.toList.length = cap * 2 := hs
  have e2 : (cur.toList.take (k * 2)).length = k * 2 := by rw [List.length_take]; omega
  have e4 : cur.toList.take (k * 2) = cs.take (k * 2) := by
   rw [← ht, List.take_take, Nat.min_eq_left (by omega)]
  rw [← e4]
  rw [List.append_assoc, List.take_append_of_le_length (by rw [List.length_take]; simp; simp at hcur; omega)]
  rw [List.take_take, Nat.min_self, List.take_append_of_le_length (by rw [List.length_append, e2, e1]; omega), List.take_of_length_le (by rw [List.length_append, e2, e1]; omega)]
theorem ent_del (g cap k r : Nat) (cs : List Value) (B : Nat) (w : World) (h : w.ownsRow B 45 2 (.slice (some ⟨g, 0, none⟩) (k + 1 + r) cap) (k + 1 + r) cs) (h1c : ∀ u ∈ cs, u.oneCell' = true) (hn : k + 1 + r ≤ 1000000) :
  Calls Tryz.prog 125 #[.slice (some ⟨g, 0, none⟩) (k + 1 + r) cap, .int .i64 k, .int .i64 ((k : Int) + 1)] w fun e w' => e = .returned (.slice (some ⟨g, 0, none⟩) (k + r) cap) ∧
   w'.ownsRow B 45 2 (.slice (some ⟨g, 0, none⟩) (k + r) cap) (k + r) (cs.take (k * 2) ++ cs.drop ((k + 1) * 2)) ∧ Below B w w' ∧ (∀ j, j ≠ g → w'.heap[j]? = w.heap[j]?) := by
 obtain ⟨i0, hi, hz0, hz1, hz2⟩ := ent_info
 have HO := Lib.hid h
 have hlt := h.lt g rfl
 obtain ⟨hl, hrow⟩ := h
 obtain ⟨hcap, hcm, hcells, hfz⟩ : k + 1 + r ≤ cap ∧ cap ≤ maxLen ∧ (∀ j, j < cap * 2 → (w.cell? ⟨g, j, none⟩).isSome = true) ∧ (∀ j, w.frozen? ⟨g, j, none⟩ = false) := by
  rcases hrow with ⟨h2, _⟩ | ⟨g', cap', cur, hv, hB, hg, hn, hm, hs, ht⟩
  ·cases h2
  ·simp only [Value.slice.injEq, Option.some.injEq, Addr.mk.injEq] at hv
   obtain ⟨⟨rfl, _⟩, _, rfl⟩ := hv
   obtain ⟨b1, b2, _⟩ := block_facts hg
   exact ⟨hn, hm, fun j hj => b1 j (by omega), b2⟩
 have hcells0 := World.ownsRow.cells HO.out (g := g) rfl
 obtain ⟨news, hnews⟩ : ∃ news, news = cs.drop ((k + 1) * 2) := ⟨_, rfl⟩
 have hlen : news.length = r * 2 := by rw [hnews, List.length_drop, hl]; omega
 obtain ⟨A, hA, hsrc⟩ : ∃ A : Addr, (if cap = k + 1 then some (⟨g, 0, none⟩ : Addr) else some ⟨g, (k + 1) * 2, none⟩) = some A ∧ Hid (∀ t u, news[t]? = some u → w.drew.cell? (A.add t) = some u) := by
  by_cases hc : cap = k + 1
  ·refine ⟨⟨g, 0, none⟩, by simp [hc], fun t u hu => ?_⟩
   have h0 : news.length = 0 := by rw [hlen]; omega
   rw [List.length_eq_zero_iff.1 h0] at hu
   simp at hu
  ·refine ⟨⟨g, (k + 1) * 2, none⟩, by simp [hc], fun t u hu => ?_⟩
   rw [hnews, List.getElem?_drop] at hu
   have := hcells0 _ u hu
   rw [Addr.add_lit] at this ⊢
   simpa using this
 have s1 : Hid (news.length = r * 2) := hlen
 have s2 : Hid (∀ u ∈ news, u.oneCell' = true) := by rw [hnews]; exact fun u hu => h1c u (List.mem_of_mem_drop hu)
 have s3 : Hid (∀ t, t < news.length → (w.drew.cell? ⟨g, 0 + k * 2 + t, none⟩).isSome = true ∧ w.drew.frozen? ⟨g, 0 + k * 2 + t, none⟩ = false) := by
  intro t ht
  rw [hlen] at ht
  exact ⟨hcells _ (by omega), hfz _⟩
 obtain ⟨W1, hW1⟩ : ∃ W1, W1 = w.drew.setCells g (k * 2) news := ⟨_, rfl⟩
 have hcl : ∀ ty, (Builtin.clear_ #[23] ty #[.slice (some ⟨g, (k + r) * 2, none⟩) (k + 1 + r - (k + r)) (cap - (k + r))]).run Tryz.prog W1 = .ok (.tuple #[]) (W1.setCells g ((k + r) * 2) [.string ⟨#[]⟩, .slice none 0 0]) := fun ty => by
  rw [show k + 1 + r - (k + r) = 1 by omega]
  exact ent_clear W1 g ((k + r) * 2) _ ty (fun j hj => by rw [hW1]; exact World.isSome_setCells _ _ _ _ _ (hcells _ (by omega))) (fun j hj => by rw [hW1, World.frozen?_setCells]; exact hfz _)
 have HF : Hid ((W1.setCells g ((k + r) * 2) [.string ⟨#[]⟩, .slice none 0 0]).ownsRow B 45 2 (.slice (some ⟨g, 0, none⟩) (k + r) cap) (k + r) (cs.take (k * 2) ++ cs.drop ((k + 1) * 2)) ∧ Below B w (W1.setCells g ((k + r) * 2) [.string ⟨#[]⟩, .slice none 0 0]) ∧ (∀ j, j ≠ g → (W1.setCells g ((k + r) * 2) [.string ⟨#[]⟩, .slice none 0 0]).heap[j]? = w.heap[j]?)) := by
  rw [hW1, hnews]
  refine ⟨ent_cut (w := w.drew) HO.out, below_cells hlt.1 _ _ _ (below_cells hlt.1 _ _ _ (Below.refl B w).drew), fun j hj => ?_⟩
  rw [only_setCells _ _ _ _ _ hj, only_setCells _ _ _ _ _ hj]
  rfl
 have hW : Hid (W1 = w.drew.setCells g (0 + k * 2) news) := by rw [Nat.zero_add]; exact hW1
 have hik : k ≤ cap := by omega
 have hjk : k + 1 ≤ cap := by omega
 have hkr : k + r ≤ cap := by omega
 have mixed : Tryz.prog.follows .mixedOrders = true := by kernel_rfl
 have hkk : (k : Int) ≤ (k : Int) + 1 := by omega
 have hk0 : (0 : Int) ≤ (k : Int) + 1 := by omega
 have hk2 : (k : Int) + 1 ≤ (k : Int) + 1 + (r : Int) := by omega
 have hne : ((k : Int) == (k : Int) + 1) = false := by rw [beq_eq_false_iff_ne]; omega
 clear hW1 hcells hfz hcells0 hrow HO hnews hlen hlt hl
 go_enter Tryz.func125, Tryz.ntmps125
 go_wp2_with fail
 go_region_law_o (refine step_append_room rfl (.tmp 22) (.tmp 25) 23 rfl 45 i0 2 Tryz.underlying23 hi hz1 g 0 k cap (by simp [Act.eval, Act.put]) A r (cap - (k + 1)) news (by simp [Act.eval, Act.put]) s1.out hsrc.out s2.out (by omega) s3.out ?_; rw [← hW.out])
 go_wp2
 go_ret
 exact ⟨rfl, HF.out⟩
end Go.Proofs.YtlpgphiccjkenaaGreatDoor
