/-
 Contracts of the program, and what they rest on.
-/
import Derived.Test.YtlpgphiccjkenaaGreatDoorM11
import Derived.Shelf.RegionOpenPlain
import Derived.Deep.RegionLaw
import Derived.Lib.SliceRun
import Derived.Laws.Rows
set_option maxRecDepth 100000
set_option maxHeartbeats 16000000
namespace Go.Proofs.YtlpgphiccjkenaaGreatDoor
open Go.RowKit
theorem vcells_take : ∀ (l : List Ve) (k : Nat), (vcells l).take (k * 3) = vcells (l.take k)
 | l, 0 => by simp [vcells]
 | [], k + 1 => by simp [vcells]
 | v :: r, k + 1 => by
  rw [show (k + 1) * 3 = k * 3 + 1 + 1 + 1 by omega]
  simp only [vcells, List.take_succ_cons, vcells_take r k]
theorem vcells_drop : ∀ (l : List Ve) (k : Nat), (vcells l).drop (k * 3) = vcells (l.drop k)
 | l, 0 => by simp
 | [], k + 1 => by simp [vcells]
 | v :: r, k + 1 => by
  rw [show (k + 1) * 3 = k * 3 + 1 + 1 + 1 by omega]
  simp only [vcells, List.drop_succ_cons, vcells_drop r k]
theorem clear_one (w : World) (g o c : Nat) (ty : TypeId) (hc : ∀ j, j < 3 → (w.cell? ⟨g, o + j, none⟩).isSome = true) (hf : ∀ j, j < 3 → w.frozen? ⟨g, o + j, none⟩ = false) :
  (Builtin.clear_ #[43] ty #[.slice (some ⟨g, o, none⟩) 1 c]).run Tryz.prog w = .ok (.tuple #[]) (w.setCells g o [.int .i64 0, .bool false, .string ⟨#[]⟩]) := by
 have hst := run_storeCells_cells (P := Tryz.prog) g o [.int .i64 0, .bool false, .string ⟨#[]⟩] 0 w (by simpa using hc) (by simpa using hf) (by intro v hv; simp at hv; rcases hv with rfl | rfl | rfl <;> rfl)
 simp only [Nat.add_zero] at hst
 have hz : (Builtin.zeroCells (Value.agg #[.int .i64 0, .bool false, .string ⟨#[]⟩]).cells 1).toList = [.int .i64 0, .bool false, .string ⟨#[]⟩] := by kernel_rfl
 simp [Builtin.clear_, run_underlying Tryz.underlying43, hz, hst]
theorem cut_row {w : World} {B g cap k r : Nat} {l : List Ve} (h : VOwn w B (.slice (some ⟨g, 0, none⟩) (k + 1 + r) cap) l) (hl : l.length = k + 1 + r) :
  VOwn ((w.setCells g (k * 3) (vcells (l.drop (k + 1)))).setCells g ((k + r) * 3) [.int .i64 0, .bool false, .string ⟨#[]⟩]) B (.slice (some ⟨g, 0, none⟩) (k + r) cap) (l.take k ++ l.drop (k + 1)) := by
 obtain ⟨h1, h2⟩ := h
 rcases h2 with ⟨h2, _⟩ | ⟨g', cap', cur, hv, hB, hg, hn, hm, hs, ht⟩
 ·cases h2
 ·simp only [Value.slice.injEq, Option.some.injEq, Addr.mk.injEq] at hv
  obtain ⟨⟨rfl, _⟩, _, rfl⟩ := hv
  have e1 : (vcells (l.drop (k + 1))).length = r * 3 := by rw [vcells_length, List.length_drop, hl]; congr 1; omega
  have e3 : (l.take k ++ l.drop (k + 1)).length = k + r := by rw [List.length_append, List.length_take, List.length_drop, hl]; omega
  have c1 := heap_setCells (vcells (l.drop (k + 1))) (k * 3) w cur hg
  have c2 := heap_setCells [.int .i64 0, .bool false, .string ⟨#[]⟩] ((k + r) * 3) _ _ c1
  rw [hl] at ht hn
  unfold VOwn
  rw [e3]
  refine ⟨by rw [vcells_length, e3], .inr ⟨g, cap, _, rfl, hB, c2, by omega, hm, by rw [wr_size, wr_size, hs], ?_⟩⟩
  rw [wr_list _ _ _ (by rw [wr_size, hs]; show (k + r) * 3 + 3 ≤ cap * 3; omega), wr_list _ _ _ (by rw [e1, hs]; omega)]
  have e2 : (cur.toList.take (k * 3)).length = k * 3 := by rw [List.length_take]; have : cur.toList.length = cap * 3 := hs; omega
  have e4 : cur.toList.take (k * 3) = vcells (l.take k) := by
   rw [← vcells_take l k, ← ht, List.take_take, Nat.min_eq_left (by omega)]
  rw [vcells_append, ← e4]
  rw [List.append_assoc, List.take_append_of_le_length (by rw [List.length_take]; simp; have : cur.toList.length = cap * 3 := hs; simp at this; omega)]
  rw [List.take_take, Nat.min_self, List.take_append_of_le_length (by rw [List.length_append, e2, e1]; omega), List.take_of_length_le (by rw [List.length_append, e2, e1]; omega)]
theorem delete_p (g cap k r : Nat) (l : List Ve) (B : Nat) (w : World) (h : VOwn w B (.slice (some ⟨g, 0, none⟩) (k + 1 + r) cap) l) (hl : l.length = k + 1 + r) (hn : l.length ≤ 1000000) :
  Calls Tryz.prog 158 #[.slice (some ⟨g, 0, none⟩) (k + 1 + r) cap, .int .i64 k, .int .i64 ((k : Int) + 1)] w fun e w' => e = .returned (.slice (some ⟨g, 0, none⟩) (k + r) cap) ∧
   VOwn w' B (.slice (some ⟨g, 0, none⟩) (k + r) cap) (l.take k ++ l.drop (k + 1)) ∧ Below B w w' ∧ (∀ j, j ≠ g → w'.heap[j]? = w.heap[j]?) := by
 obtain ⟨i0, hi, hz0, hz1, hz2⟩ := info_v
 have HO := Lib.hid h
 have hlt := h.lt (g := g) rfl
 obtain ⟨_, hrow⟩ := h
 obtain ⟨hcap, hcm, hcells, hfz⟩ : k + 1 + r ≤ cap ∧ cap ≤ maxLen ∧ (∀ j, j < cap * 3 → (w.cell? ⟨g, j, none⟩).isSome = true) ∧ (∀ j, w.frozen? ⟨g, j, none⟩ = false) := by
  rcases hrow with ⟨h2, _⟩ | ⟨g', cap', cur, hv, hB, hg, hn, hm, hs, ht⟩
  ·cases h2
  ·simp only [Value.slice.injEq, Option.some.injEq, Addr.mk.injEq] at hv
   obtain ⟨⟨rfl, _⟩, _, rfl⟩ := hv
   rw [hl] at hn
   refine ⟨hn, hm, fun j hj => ?_, fun j => ?_⟩
   ·unfold World.cell?
    simp only [hg]
    simp
    omega
   ·simp [World.frozen?, hg]
 have hcells0 := World.ownsRow.cells HO.out (g := g) rfl
 obtain ⟨news, hnews⟩ : ∃ news, news = vcells (l.drop (k + 1)) := ⟨_, rfl⟩
 have hlen : news.length = r * 3 := by rw [hnews, vcells_length, List.length_drop, hl]; congr 1; omega
 obtain ⟨A, hA, hsrc⟩ : ∃ A : Addr, (if cap = k + 1 then some (⟨g, 0, none⟩ : Addr) else some ⟨g, (k + 1) * 3, none⟩) = some A ∧ Hid (∀ t u, news[t]? = some u → w.drew.cell? (A.add t) = some u) := by
  by_cases hc : cap = k + 1
  ·refine ⟨⟨g, 0, none⟩, by simp [hc], fun t u hu => ?_⟩
   have h0 : news.length = 0 := by rw [hlen]; omega
   rw [List.length_eq_zero_iff.1 h0] at hu
   simp at hu
  ·refine ⟨⟨g, (k + 1) * 3, none⟩, by simp [hc], fun t u hu => ?_⟩
   rw [hnews, ← vcells_drop, List.getElem?_drop] at hu
   have := hcells0 _ u hu
   rw [Addr.add_lit] at this ⊢
   simpa using this
 have s1 : Hid (news.length = r * 3) := hlen
 have s2 : Hid (∀ u ∈ news, u.oneCell' = true) := by rw [hnews]; exact vcells_one _
 have s3 : Hid (∀ t, t < news.length → (w.drew.cell? ⟨g, 0 + k * 3 + t, none⟩).isSome = true ∧ w.drew.frozen? ⟨g, 0 + k * 3 + t, none⟩ = false) := by
  intro t ht
  rw [hlen] at ht
  exact ⟨hcells _ (by omega), hfz _⟩
 obtain ⟨W1, hW1⟩ : ∃ W1, W1 = w.drew.setCells g (k * 3) news := ⟨_, rfl⟩
 have hcl : ∀ ty, (Builtin.clear_ #[43] ty #[.slice (some ⟨g, (k + r) * 3, none⟩) (k + 1 + r - (k + r)) (cap - (k + r))]).run Tryz.prog W1 = .ok (.tuple #[]) (W1.setCells g ((k + r) * 3) [.int .i64 0, .bool false, .string ⟨#[]⟩]) := fun ty => by
  rw [show k + 1 + r - (k + r) = 1 by omega]
  exact clear_one W1 g ((k + r) * 3) _ ty (fun j hj => by rw [hW1]; exact World.isSome_setCells _ _ _ _ _ (hcells _ (by omega))) (fun j hj => by rw [hW1, World.frozen?_setCells]; exact hfz _)
 have HF : Hid (VOwn (W1.setCells g ((k + r) * 3) [.int .i64 0, .bool false, .string ⟨#[]⟩]) B (.slice (some ⟨g, 0, none⟩) (k + r) cap) (l.take k ++ l.drop (k + 1)) ∧ Below B w (W1.setCells g ((k + r) * 3) [.int .i64 0, .bool false, .string ⟨#[]⟩]) ∧ (∀ j, j ≠ g → (W1.setCells g ((k + r) * 3) [.int .i64 0, .bool false, .string ⟨#[]⟩]).heap[j]? = w.heap[j]?)) := by
  rw [hW1, hnews]
  refine ⟨cut_row (w := w.drew) (HO.out.kept fun _ _ => rfl) hl, below_cells hlt.1 _ _ _ (below_cells hlt.1 _ _ _ (Below.refl B w).drew), fun j hj => ?_⟩
  rw [only_setCells _ _ _ _ _ hj, only_setCells _ _ _ _ _ hj]
  rfl
 have hW : Hid (W1 = w.drew.setCells g (0 + k * 3) news) := by rw [Nat.zero_add]; exact hW1
 have hik : k ≤ cap := by omega
 have hjk : k + 1 ≤ cap := by omega
 have hkr : k + r ≤ cap := by omega
 have mixed : Tryz.prog.follows .mixedOrders = true := by kernel_rfl
 have hkk : (k : Int) ≤ (k : Int) + 1 := by omega
 have hk0 : (0 : Int) ≤ (k : Int) + 1 := by omega
 have hk2 : (k : Int) + 1 ≤ (k : Int) + 1 + (r : Int) := by omega
 have hne : ((k : Int) == (k : Int) + 1) = false := by rw [beq_eq_false_iff_ne]; omega
 clear hW1 hcells hfz hcells0 hrow HO hnews hlen hlt
 go_enter Tryz.func158, Tryz.ntmps158
 go_wp2_with fail
 go_region_law_o (refine step_append_room rfl (.tmp 22) (.tmp 25) 43 rfl 55 i0 3 Tryz.underlying43 hi hz1 g 0 k cap (by simp [Act.eval, Act.put]) A r (cap - (k + 1)) news (by simp [Act.eval, Act.put]) s1.out hsrc.out s2.out (by omega) s3.out ?_; rw [← hW.out])
 go_wp2
 go_ret
 exact ⟨rfl, HF.out⟩
end Go.Proofs.YtlpgphiccjkenaaGreatDoor
