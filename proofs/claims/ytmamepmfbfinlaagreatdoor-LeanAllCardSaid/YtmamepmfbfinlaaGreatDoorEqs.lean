/-
  The contracts of pouch's placeOf, last and join at an empty map.
-/
import Derived.Test.YtmamepmfbfinlaaGreatDoorPouch6
import Derived.Carry
import Derived.LaidEql
namespace Go.Proofs.YtmamepmfbfinlaaGreatDoor
open Go.RowKit

theorem run_key (em : Bool) (p : Addr) (n : Int) (w : World) : (Instr.checkKey em 10000 96 (.agg #[.pointer (some p), .int .i64 n])).run Tryz.prog w = .ok () w := by
  cases em <;> kernel_rfl

theorem run_look (m : Nat) (p : Addr) (n : Int) (w : World) (hm : w.heap[m]? = some (.map #[] 0)) : (Instr.lookup 89 (.map (some m)) (.agg #[.pointer (some p), .int .i64 n]) true).run Tryz.prog w = .ok (.tuple #[.agg #[.pointer none, .int .i64 0], .bool false]) w := by
  have hk := run_key true p n w
  have hz : (zeroValue 96).run Tryz.prog w = .ok (.agg #[.pointer none, .int .i64 0]) w := by kernel_rfl
  unfold Instr.lookup
  simp only [Sem.run_bind, run_underlying Tryz.underlying89, run_underlying Tryz.underlying96, Result.andThen_ok, Go.MapKept.run_getObj_map hm, Sem.run_pure, hk, Instr.findKey, Instr.findNow, hz, Array.isEmpty_empty, if_true]

/-- A world in which a map that was empty has one entry. -/
def putMap (w : World) (m : Nat) (p q : Addr) (n k : Int) : World := { w with heap := w.heap.setIfInBounds m (.map (#[].push { key := .agg #[.pointer (some p), .int .i64 n], val := .agg #[.pointer (some q), .int .i64 k], born := 0 }) (0 + 1)) }

theorem putMap_below (w : World) (m : Nat) (p q : Addr) (n k : Int) (B : Nat) (hB : B ≤ m) : Below B w (putMap w m p q n k) := by
  refine ⟨rfl, rfl, rfl, by simp [putMap], fun j hj => ?_⟩
  simp only [putMap]
  rw [Array.getElem?_setIfInBounds_ne (by omega)]

theorem putMap_old (w : World) (m : Nat) (p q : Addr) (n k : Int) (j : Nat) (h : j ≠ m) : (putMap w m p q n k).heap[j]? = w.heap[j]? := by
  simp only [putMap]
  rw [Array.getElem?_setIfInBounds_ne (fun e => h e.symm)]

/-- A store into an empty map. -/
theorem run_put (m : Nat) (p q : Addr) (n k : Int) (w : World) (hm : w.heap[m]? = some (.map #[] 0)) : (Instr.mapUpdate 89 (.map (some m)) (.agg #[.pointer (some p), .int .i64 n]) (.agg #[.pointer (some q), .int .i64 k])).run Tryz.prog w = .ok () (putMap w m p q n k) := by
  have hk := run_key false p n w
  unfold Instr.mapUpdate
  simp only [Sem.run_bind, run_underlying Tryz.underlying89, run_underlying Tryz.underlying96, Result.andThen_ok, Go.MapKept.run_getObj_map hm, Sem.run_pure, hk, Instr.findKey, Instr.findNow]
  exact Go.MapKept.run_setObj_map _ hm

set_option maxRecDepth 100000 in
theorem place_p (b o len cap : Nat) (hl : 0 < len) (w : World) :
    Calls Tryz.prog 61 #[.slice (some ⟨b, o, none⟩) len cap] w fun e w' => e = .returned (.agg #[.pointer (some ⟨b, o, none⟩), .int .i64 len]) ∧ Below w.heap.size w w' := by
  go_enter Tryz.func61, Tryz.ntmps61
  go_wp2_with fail
  exact bodyPost_ret (v := .agg #[.pointer (some ⟨b, o, none⟩), .int .i64 len]) (by simp [results, Tryz.results61, go_sem]) rfl ⟨rfl, (Below.refl _ _).alloc (Nat.le_refl _) _⟩

set_option maxRecDepth 100000 in
/-- In a map that is empty each is its class's last one. -/
theorem last_p (m : Nat) (p : Addr) (n : Int) (w : World) (hm : w.heap[m]? = some (.map #[] 0)) :
    Calls Tryz.prog 80 #[.map (some m), .agg #[.pointer (some p), .int .i64 n]] w fun e w' => e = .returned (.agg #[.pointer (some p), .int .i64 n]) ∧ Below w.heap.size w w' := by
  have hlt : m < w.heap.size := by
    rcases Nat.lt_or_ge m w.heap.size with h1 | h1
    · exact h1
    · rw [Array.getElem?_eq_none h1] at hm
      cases hm
  have hl := run_look m p n ((w.alloc (.cells #[.pointer (some p), .int .i64 n] 96)).alloc (.cells #[.pointer none, .int .i64 0] 96)) (by rw [heap_alloc_old _ _ (by simp; omega), heap_alloc_old _ _ hlt]; exact hm)
  clear hm
  go_enter Tryz.func80, Tryz.ntmps80
  go_wp2_with fail
  refine wp_loop_rounds 1 ?_
  rw [rounds_succ]
  go_wp2_with fail
  have e0 : ((((w.alloc (.cells #[.pointer (some p), .int .i64 n] 96)).alloc (.cells #[.pointer (some p), .int .i64 n] 96)).alloc (.cells #[.pointer none, .int .i64 0] 96))).cell? ⟨w.heap.size + 1, 0, none⟩ = some (.pointer (some p)) := by go_simp
  have e1 : ((((w.alloc (.cells #[.pointer (some p), .int .i64 n] 96)).alloc (.cells #[.pointer (some p), .int .i64 n] 96)).alloc (.cells #[.pointer none, .int .i64 0] 96))).cell? ⟨w.heap.size + 1, 1, none⟩ = some (.int .i64 n) := by go_simp
  exact bodyPost_ret (v := .agg #[.pointer (some p), .int .i64 n]) (by simp [results, Tryz.results80, go_sem, e0, e1]) rfl ⟨rfl, (((Below.refl _ _).alloc (Nat.le_refl _) _).alloc (by simp) _).alloc (by simp only [World.size_alloc]; omega) _⟩

theorem lt_of_heap {w : World} {b : Nat} {o : Obj} (h : w.heap[b]? = some o) : b < w.heap.size := by
  rcases Nat.lt_or_ge b w.heap.size with h1 | h1
  · exact h1
  · rw [Array.getElem?_eq_none h1] at h
    cases h

theorem run_ptr_other (w : World) {a b : Addr} {ca cb : Array Value} {ta tb : TypeId} (hne : a ≠ b) (ha : w.heap[a.block]? = some (.cells ca ta (0, 0))) (hb : w.heap[b.block]? = some (.cells cb tb (0, 0))) :
    ∀ d : Nat, (Op.equalIn (d + 1) 93 (.pointer (some a)) (.pointer (some b))).run Tryz.prog w = .ok false w := by
  intro d
  obtain ⟨i0, hi, _, hz1, _⟩ := info_parts infoVal
  have h := run_sameAddr_other (P := Tryz.prog) w hne ha hb
  simp [Op.equalIn, run_underlying Tryz.underlying93, typeInfo, sizeOf, hi, hz1, h]

/-- What join's calls leave as it is. -/
def JoinS (m a b : Nat) (p q : Addr) (n k : Int) (w : World) : Prop :=
  w.cell? ⟨a, 0, none⟩ = some (.pointer (some p)) ∧ w.cell? ⟨a, 1, none⟩ = some (.int .i64 n) ∧ w.cell? ⟨b, 0, none⟩ = some (.pointer (some q)) ∧ w.cell? ⟨b, 1, none⟩ = some (.int .i64 k) ∧ w.heap[m]? = some (.map #[] 0)

theorem JoinS.below {m a b : Nat} {p q : Addr} {n k : Int} {w w' : World} (h : JoinS m a b p q n k w) (hb : Below w.heap.size w w') : JoinS m a b p q n k w' := by
  obtain ⟨h0, h1, h2, h3, h4⟩ := h
  refine ⟨cell_kept hb (Nat.le_refl _) h0, cell_kept hb (Nat.le_refl _) h1, cell_kept hb (Nat.le_refl _) h2, cell_kept hb (Nat.le_refl _) h3, ?_⟩
  rw [hb.block m (by
    rcases Nat.lt_or_ge m w.heap.size with h1 | h1
    · exact h1
    · rw [Array.getElem?_eq_none h1] at h4
      cases h4)]
  exact h4

set_option maxRecDepth 100000 in
set_option maxHeartbeats 4000000 in
/-- Two places that are unlike come together in an empty map. -/
theorem join_p (m : Nat) (p q : Addr) (n k : Int) (hne : p ≠ q) (w : World) (hm : w.heap[m]? = some (.map #[] 0)) (hp : ∃ cur t, w.heap[p.block]? = some (.cells cur t (0, 0))) (hq : ∃ cur t, w.heap[q.block]? = some (.cells cur t (0, 0))) :
    Calls Tryz.prog 60 #[.map (some m), .agg #[.pointer (some p), .int .i64 n], .agg #[.pointer (some q), .int .i64 k]] w fun e w' => e = .returned (.bool true) ∧ ∃ w1, Below w.heap.size w w1 ∧ w' = putMap w1 m p q n k := by
  have hlt : m < w.heap.size := by
    rcases Nat.lt_or_ge m w.heap.size with h1 | h1
    · exact h1
    · rw [Array.getElem?_eq_none h1] at hm
      cases hm
  have HM := Lib.hid hm
  have HPQ := Lib.hid (And.intro hp hq)
  clear hm hp hq
  go_enter Tryz.func60, Tryz.ntmps60
  go_wp2_with fail
  have hS : JoinS m w.heap.size (w.heap.size + 1) p q n k (World.drew ((w.alloc (.cells #[.pointer (some p), .int .i64 n] 96)).alloc (.cells #[.pointer (some q), .int .i64 k] 96))) := by
    refine ⟨?_, ?_, ?_, ?_, ?_⟩
    · go_simp
    · go_simp
    · go_simp
    · go_simp
    · rw [show (∀ (x : World), x.drew.heap = x.heap) from fun _ => rfl, heap_alloc_old _ _ (by simp; omega), heap_alloc_old _ _ hlt]
      exact HM.out
  refine wp_region_held (S := JoinS m w.heap.size (w.heap.size + 1) p q n k) (by kernel_rfl) ?_
  change wpAnyH _ _ _ _ _ _ _ _ (World.drew _)
  refine wpAnyH_take (i := 0) (v := Value.map (some m)) rfl (by kernel_rfl) (by kernel_rfl) (by kernel_rfl) (fun _ _ _ h => h) (Or.inl ⟨by rfl, ?_⟩) hS ?_
  · intro w' ⟨s0, s1, s2, s3, s4⟩; go_simp
  refine wpAnyH_take (i := 1) (v := Value.agg #[.pointer (some p), .int .i64 n]) rfl (by kernel_rfl) (by kernel_rfl) (by kernel_rfl) (fun _ _ _ h => h) (Or.inl ⟨by rfl, ?_⟩) hS ?_
  · intro w' ⟨s0, s1, s2, s3, s4⟩; go_simp
  refine wpAnyH_take (i := 3) (v := Value.map (some m)) rfl (by kernel_rfl) (by kernel_rfl) (by kernel_rfl) (fun _ _ _ h => h) (Or.inl ⟨by rfl, ?_⟩) hS ?_
  · intro w' ⟨s0, s1, s2, s3, s4⟩; go_simp
  refine wpAnyH_take (i := 4) (v := Value.agg #[.pointer (some q), .int .i64 k]) rfl (by kernel_rfl) (by kernel_rfl) (by kernel_rfl) (fun _ _ _ h => h) (Or.inl ⟨by rfl, ?_⟩) hS ?_
  · intro w' ⟨s0, s1, s2, s3, s4⟩; go_simp
  refine wpAnyH_ready (rs := [2]) (by kernel_rfl) (by simp) ?_
  refine AllReadyH.cons rfl (fun K hK => ?_) AllReadyH.nil
  go_simp
  refine (last_p m p n _ hS.2.2.2.2).mono ?_
  rintro _ w1 ⟨rfl, hb1⟩
  refine hK.out _ _ (hS.below hb1) (fun hS1 => ?_)
  have HB1 : Hid (Below w.heap.size w w1) := Lib.hid (((((Below.refl _ _).alloc (Nat.le_refl _) _).alloc (by simp) _).drew).trans (hb1.mono (by simp; omega)))
  have k0 : w1.frozen? ⟨w.heap.size, 0, none⟩ = false := by rw [hb1.frozen (by simp; omega)]; go_simp
  have k1 : w1.frozen? ⟨w.heap.size, 1, none⟩ = false := by rw [hb1.frozen (by simp; omega)]; go_simp
  have k2 : w1.frozen? ⟨w.heap.size + 1, 0, none⟩ = false := by rw [hb1.frozen (by simp)]; go_simp
  have k3 : w1.frozen? ⟨w.heap.size + 1, 1, none⟩ = false := by rw [hb1.frozen (by simp)]; go_simp
  clear hK hS hb1
  refine wpAnyH_ready (rs := [5]) (by kernel_rfl) (by simp) ?_
  refine AllReadyH.cons rfl (fun K hK => ?_) AllReadyH.nil
  go_simp
  refine (last_p m q k _ hS1.2.2.2.2).mono ?_
  rintro _ w2 ⟨rfl, hb2⟩
  refine hK.out _ _ (hS1.below hb2) (fun hS2 => ?_)
  have HB2 : Hid (Below w.heap.size w w2) := Lib.hid (HB1.out.trans (hb2.mono HB1.out.size))
  have z0 : w2.frozen? ⟨w.heap.size, 0, none⟩ = false := by rw [hb2.frozen (World.block_lt_of_cell? w1 _ hS1.1)]; exact k0
  have z1 : w2.frozen? ⟨w.heap.size, 1, none⟩ = false := by rw [hb2.frozen (World.block_lt_of_cell? w1 _ hS1.2.1)]; exact k1
  have z2 : w2.frozen? ⟨w.heap.size + 1, 0, none⟩ = false := by rw [hb2.frozen (World.block_lt_of_cell? w1 _ hS1.2.2.1)]; exact k2
  have z3 : w2.frozen? ⟨w.heap.size + 1, 1, none⟩ = false := by rw [hb2.frozen (World.block_lt_of_cell? w1 _ hS1.2.2.2.1)]; exact k3
  clear hK hS1 hb2 k0 k1 k2 k3
  refine wpAnyH_ready (rs := [6]) (by kernel_rfl) (by simp) ?_
  refine AllReadyH.cons rfl (fun K hK => ?_) AllReadyH.nil
  obtain ⟨s0, s1, s2, s3, s4⟩ := hS2
  go_simp
  have hmn : m ≠ w.heap.size := by omega
  have hmn2 : m ≠ w.heap.size + 1 := by omega
  refine hK.out _ _ ?_ (fun hS3 => ?_)
  · refine ⟨?_, ?_, ?_, ?_, ?_⟩
    · go_simp
    · go_simp
    · go_simp
    · go_simp
    · rw [heap_setCell_other _ _ _ _ hmn, heap_setCell_other _ _ _ _ hmn]; exact s4
  clear hK
  refine wpAnyH_ready (rs := [7]) (by kernel_rfl) (by simp) ?_
  refine AllReadyH.cons rfl (fun K hK => ?_) AllReadyH.nil
  go_simp
  have hS4 : JoinS m w.heap.size (w.heap.size + 1) p q n k ((((w2.setCell ⟨w.heap.size, 0, none⟩ (.pointer (some p))).setCell ⟨w.heap.size, 1, none⟩ (.int .i64 n)).setCell ⟨w.heap.size + 1, 0, none⟩ (.pointer (some q))).setCell ⟨w.heap.size + 1, 1, none⟩ (.int .i64 k)) := by
    refine ⟨?_, ?_, ?_, ?_, ?_⟩
    · go_simp
    · go_simp
    · go_simp
    · go_simp
    · rw [heap_setCell_other _ _ _ _ hmn2, heap_setCell_other _ _ _ _ hmn2, heap_setCell_other _ _ _ _ hmn, heap_setCell_other _ _ _ _ hmn]; exact s4
  have HB4 : Hid (Below w.heap.size w ((((w2.setCell ⟨w.heap.size, 0, none⟩ (.pointer (some p))).setCell ⟨w.heap.size, 1, none⟩ (.int .i64 n)).setCell ⟨w.heap.size + 1, 0, none⟩ (.pointer (some q))).setCell ⟨w.heap.size + 1, 1, none⟩ (.int .i64 k))) := Lib.hid ((((HB2.out.setCell (by simp) _).setCell (by simp) _).setCell (by simp) _).setCell (by simp) _)
  refine hK.out _ _ hS4 (fun _ => ?_)
  clear hK hS3 s0 s1 s2 s3 s4 z0 z1 z2 z3 HB2 HB1
  refine wpAnyH_done (by kernel_rfl) ?_ _
  generalize ((((w2.setCell ⟨w.heap.size, 0, none⟩ (.pointer (some p))).setCell ⟨w.heap.size, 1, none⟩ (.int .i64 n)).setCell ⟨w.heap.size + 1, 0, none⟩ (.pointer (some q))).setCell ⟨w.heap.size + 1, 1, none⟩ (.int .i64 k)) = W at *
  have hp := run_put m p q n k W hS4.2.2.2.2
  obtain ⟨s0, s1, s2, s3, _⟩ := hS4
  have heq : (Op.equalIn 9999 93 (.pointer (some p)) (.pointer (some q))).run Tryz.prog W = .ok false W := by
    obtain ⟨⟨c1, t1, h1⟩, ⟨c2, t2, h2⟩⟩ := HPQ.out
    have l1 : p.block < w.heap.size := lt_of_heap h1
    have l2 : q.block < w.heap.size := lt_of_heap h2
    exact run_ptr_other W hne (by rw [HB4.out.block _ l1]; exact h1) (by rw [HB4.out.block _ l2]; exact h2) 9998
  clear hne
  go_wp2_with fail
  go_ret
  exact ⟨rfl, W, HB4.out, rfl⟩

/-- The two values of begun's list, from a cell of a block on. -/
def Two (w : World) (b o : Nat) : Prop :=
  w.cell? ⟨b, o, none⟩ = some (.int .i64 1) ∧ w.cell? ⟨b, o + 1, none⟩ = some (.int .i64 (-5)) ∧ w.cell? ⟨b, o + 2, none⟩ = some (.string ⟨#[]⟩) ∧ (∃ a c, w.cell? ⟨b, o + 3, none⟩ = some (.slice a 0 c)) ∧
  w.cell? ⟨b, o + 4, none⟩ = some (.int .i64 2) ∧ w.cell? ⟨b, o + 5, none⟩ = some (.int .i64 0) ∧ w.cell? ⟨b, o + 6, none⟩ = some (.string ⟨#[97, 98]⟩) ∧ (∃ a c, w.cell? ⟨b, o + 7, none⟩ = some (.slice a 0 c)) ∧
  ∃ cur t, w.heap[b]? = some (.cells cur t (0, 0))

/-- What the second round's regions read. -/
def EqB (p x ox cx y oy cy : Nat) (a1 a2 a3 a4 : Option Addr) (c1 c2 c3 c4 : Nat) (W : World) : Prop :=
  W.cell? ⟨p, 0, none⟩ = some (.slice (some ⟨x, ox, none⟩) 2 cx) ∧
  W.cell? ⟨p, 1, none⟩ = some (.slice (some ⟨y, oy, none⟩) 2 cy) ∧
  W.cell? ⟨x, ox, none⟩ = some (.int .i64 1) ∧
  W.cell? ⟨x, ox + 1, none⟩ = some (.int .i64 (-5)) ∧
  W.cell? ⟨x, ox + 2, none⟩ = some (.string ⟨#[]⟩) ∧
  W.cell? ⟨x, ox + 3, none⟩ = some (.slice a1 0 c1) ∧
  W.cell? ⟨x, ox + 4, none⟩ = some (.int .i64 2) ∧
  W.cell? ⟨x, ox + 5, none⟩ = some (.int .i64 0) ∧
  W.cell? ⟨x, ox + 4 + 1, none⟩ = some (.int .i64 0) ∧
  W.cell? ⟨x, ox + 6, none⟩ = some (.string ⟨#[97, 98]⟩) ∧
  W.cell? ⟨x, ox + 4 + 2, none⟩ = some (.string ⟨#[97, 98]⟩) ∧
  W.cell? ⟨x, ox + 7, none⟩ = some (.slice a2 0 c2) ∧
  W.cell? ⟨x, ox + 4 + 3, none⟩ = some (.slice a2 0 c2) ∧
  W.cell? ⟨y, oy, none⟩ = some (.int .i64 1) ∧
  W.cell? ⟨y, oy + 1, none⟩ = some (.int .i64 (-5)) ∧
  W.cell? ⟨y, oy + 2, none⟩ = some (.string ⟨#[]⟩) ∧
  W.cell? ⟨y, oy + 3, none⟩ = some (.slice a3 0 c3) ∧
  W.cell? ⟨y, oy + 4, none⟩ = some (.int .i64 2) ∧
  W.cell? ⟨y, oy + 5, none⟩ = some (.int .i64 0) ∧
  W.cell? ⟨y, oy + 4 + 1, none⟩ = some (.int .i64 0) ∧
  W.cell? ⟨y, oy + 6, none⟩ = some (.string ⟨#[97, 98]⟩) ∧
  W.cell? ⟨y, oy + 4 + 2, none⟩ = some (.string ⟨#[97, 98]⟩) ∧
  W.cell? ⟨y, oy + 7, none⟩ = some (.slice a4 0 c4) ∧
  W.cell? ⟨y, oy + 4 + 3, none⟩ = some (.slice a4 0 c4)

theorem EqB.mk {p x ox cx y oy cy : Nat} {w W : World} (hb : Below w.heap.size w W) (hx : Two w x ox) (hy : Two w y oy) (h0 : W.cell? ⟨p, 0, none⟩ = some (.slice (some ⟨x, ox, none⟩) 2 cx)) (h1 : W.cell? ⟨p, 1, none⟩ = some (.slice (some ⟨y, oy, none⟩) 2 cy)) :
    ∃ a1 a2 a3 a4 c1 c2 c3 c4, EqB p x ox cx y oy cy a1 a2 a3 a4 c1 c2 c3 c4 W := by
  obtain ⟨x0, x1, x2, ⟨a1, c1, x3⟩, x4, x5, x6, ⟨a2, c2, x7⟩, _⟩ := hx
  obtain ⟨y0, y1, y2, ⟨a3, c3, y3⟩, y4, y5, y6, ⟨a4, c4, y7⟩, _⟩ := hy
  have k := fun {a : Addr} {v : Value} (h : w.cell? a = some v) => cell_kept hb (Nat.le_refl _) h
  exact ⟨a1, a2, a3, a4, c1, c2, c3, c4, h0, h1, k x0, k x1, k x2, k x3, k x4, k x5, k x5, k x6, k x6, k x7, k x7, k y0, k y1, k y2, k y3, k y4, k y5, k y5, k y6, k y6, k y7, k y7⟩

theorem infoPair : (Tryz.prog.info? 91).map (fun i => (i.zero, i.size, i.bytes)) = some (some (.agg #[.slice none 0 0, .slice none 0 0]), 2, 48) := by kernel_rfl

/-- What the first round's regions read. -/
def EqA (p a b x ox cx y oy cy : Nat) (W : World) : Prop :=
  W.cell? ⟨p, 0, none⟩ = some (.slice (some ⟨a, 0, none⟩) 1 1) ∧
  W.cell? ⟨p, 1, none⟩ = some (.slice (some ⟨b, 0, none⟩) 1 1) ∧
  W.cell? ⟨a, 0, none⟩ = some (.int .i64 3) ∧
  W.cell? ⟨a, 1, none⟩ = some (.int .i64 0) ∧
  W.cell? ⟨a, 2, none⟩ = some (.string ⟨#[]⟩) ∧
  W.cell? ⟨a, 3, none⟩ = some (.slice (some ⟨x, ox, none⟩) 2 cx) ∧
  W.cell? ⟨b, 0, none⟩ = some (.int .i64 3) ∧
  W.cell? ⟨b, 1, none⟩ = some (.int .i64 0) ∧
  W.cell? ⟨b, 2, none⟩ = some (.string ⟨#[]⟩) ∧
  W.cell? ⟨b, 3, none⟩ = some (.slice (some ⟨y, oy, none⟩) 2 cy)

theorem EqA.kept {p a b x ox cx y oy cy : Nat} {W W' : World} (h : EqA p a b x ox cx y oy cy W) (hk : ∀ j, j < W.heap.size → (j = p ∨ j = a ∨ j = b) → W'.heap[j]? = W.heap[j]?) : EqA p a b x ox cx y oy cy W' := by
  obtain ⟨p0, p1, a0, a1, a2, a3, b0, b1, b2, b3⟩ := h
  have kp := hk p (World.block_lt_of_cell? W _ p0) (.inl rfl)
  have ka := hk a (World.block_lt_of_cell? W _ a0) (.inr (.inl rfl))
  have kb := hk b (World.block_lt_of_cell? W _ b0) (.inr (.inr rfl))
  exact ⟨by rw [cell_congr kp]; exact p0, by rw [cell_congr kp]; exact p1, by rw [cell_congr ka]; exact a0, by rw [cell_congr ka]; exact a1, by rw [cell_congr ka]; exact a2, by rw [cell_congr ka]; exact a3, by rw [cell_congr kb]; exact b0, by rw [cell_congr kb]; exact b1, by rw [cell_congr kb]; exact b2, by rw [cell_congr kb]; exact b3⟩

theorem EqA.below {p a b x ox cx y oy cy : Nat} {W W' : World} (h : EqA p a b x ox cx y oy cy W) (hb : Below W.heap.size W W') : EqA p a b x ox cx y oy cy W' := h.kept (fun j hj _ => hb.block j hj)

set_option maxRecDepth 100000 in
set_option maxHeartbeats 16000000 in
theorem eq_two (x y ox oy cx cy : Nat) (hxy : x ≠ y) (w : World) (hx : Two w x ox) (hy : Two w y oy) :
    Calls Tryz.prog 41 #[.agg #[.int .i64 3, .int .i64 0, .string ⟨#[]⟩, .slice (some ⟨x, ox, none⟩) 2 cx], .agg #[.int .i64 3, .int .i64 0, .string ⟨#[]⟩, .slice (some ⟨y, oy, none⟩) 2 cy]] w fun e w' => e = .returned (.bool true) ∧ Below w.heap.size w w' := by
  have HX := Lib.hid (And.intro hx hy)
  clear hx hy
  have hmm := @run_makeMap Tryz.prog
  go_enter Tryz.func41, Tryz.ntmps41
  go_wp2_with fail
  refine wp_loop_rounds 3 ?_
  rw [rounds_succ]
  go_wp2_with fail
  refine wp_loop_rounds 2 ?_
  rw [rounds_succ]
  go_wp2_with fail
  have hS : EqA (w.heap.size + 1 + 1 + 1 + 1 + 1 + 1) (w.heap.size + 1 + 1 + 1) (w.heap.size + 1 + 1 + 1 + 1) x ox cx y oy cy (((((((w.alloc (.cells #[.int .i64 3, .int .i64 0, .string ⟨#[]⟩, .slice (some ⟨x, ox, none⟩) 2 cx] 61)).alloc (.cells #[.int .i64 3, .int .i64 0, .string ⟨#[]⟩, .slice (some ⟨y, oy, none⟩) 2 cy] 61)).alloc (.map #[] 0)).alloc (.cells #[.int .i64 3, .int .i64 0, .string ⟨#[]⟩, .slice (some ⟨x, ox, none⟩) 2 cx] 61)).alloc (.cells #[.int .i64 3, .int .i64 0, .string ⟨#[]⟩, .slice (some ⟨y, oy, none⟩) 2 cy] 61)).alloc (.cells #[.slice (some ⟨w.heap.size + 1 + 1 + 1, 0, none⟩) 1 1, .slice (some ⟨w.heap.size + 1 + 1 + 1 + 1, 0, none⟩) 1 1] 91)).alloc (.cells #[.slice (some ⟨w.heap.size + 1 + 1 + 1, 0, none⟩) 1 1, .slice (some ⟨w.heap.size + 1 + 1 + 1 + 1, 0, none⟩) 1 1] 91)) := by
    refine ⟨?_, ?_, ?_, ?_, ?_, ?_, ?_, ?_, ?_, ?_⟩ <;> go_simp
  have hmap : (((((((w.alloc (.cells #[.int .i64 3, .int .i64 0, .string ⟨#[]⟩, .slice (some ⟨x, ox, none⟩) 2 cx] 61)).alloc (.cells #[.int .i64 3, .int .i64 0, .string ⟨#[]⟩, .slice (some ⟨y, oy, none⟩) 2 cy] 61)).alloc (.map #[] 0)).alloc (.cells #[.int .i64 3, .int .i64 0, .string ⟨#[]⟩, .slice (some ⟨x, ox, none⟩) 2 cx] 61)).alloc (.cells #[.int .i64 3, .int .i64 0, .string ⟨#[]⟩, .slice (some ⟨y, oy, none⟩) 2 cy] 61)).alloc (.cells #[.slice (some ⟨w.heap.size + 1 + 1 + 1, 0, none⟩) 1 1, .slice (some ⟨w.heap.size + 1 + 1 + 1 + 1, 0, none⟩) 1 1] 91)).alloc (.cells #[.slice (some ⟨w.heap.size + 1 + 1 + 1, 0, none⟩) 1 1, .slice (some ⟨w.heap.size + 1 + 1 + 1 + 1, 0, none⟩) 1 1] 91)).heap[w.heap.size + 1 + 1]? = some (.map #[] 0) := by
    rw [heap_alloc_old _ _ (by simp), heap_alloc_old _ _ (by simp), heap_alloc_old _ _ (by simp), heap_alloc_old _ _ (by simp)]
    have h := heap_alloc_new ((w.alloc (.cells #[.int .i64 3, .int .i64 0, .string ⟨#[]⟩, .slice (some ⟨x, ox, none⟩) 2 cx] 61)).alloc (.cells #[.int .i64 3, .int .i64 0, .string ⟨#[]⟩, .slice (some ⟨y, oy, none⟩) 2 cy] 61)) (.map #[] 0)
    simpa using h
  have hleft : (((((((w.alloc (.cells #[.int .i64 3, .int .i64 0, .string ⟨#[]⟩, .slice (some ⟨x, ox, none⟩) 2 cx] 61)).alloc (.cells #[.int .i64 3, .int .i64 0, .string ⟨#[]⟩, .slice (some ⟨y, oy, none⟩) 2 cy] 61)).alloc (.map #[] 0)).alloc (.cells #[.int .i64 3, .int .i64 0, .string ⟨#[]⟩, .slice (some ⟨x, ox, none⟩) 2 cx] 61)).alloc (.cells #[.int .i64 3, .int .i64 0, .string ⟨#[]⟩, .slice (some ⟨y, oy, none⟩) 2 cy] 61)).alloc (.cells #[.slice (some ⟨w.heap.size + 1 + 1 + 1, 0, none⟩) 1 1, .slice (some ⟨w.heap.size + 1 + 1 + 1 + 1, 0, none⟩) 1 1] 91)).alloc (.cells #[.slice (some ⟨w.heap.size + 1 + 1 + 1, 0, none⟩) 1 1, .slice (some ⟨w.heap.size + 1 + 1 + 1 + 1, 0, none⟩) 1 1] 91)).heap[w.heap.size + 1 + 1 + 1 + 1 + 1]? = some (.cells #[.slice (some ⟨w.heap.size + 1 + 1 + 1, 0, none⟩) 1 1, .slice (some ⟨w.heap.size + 1 + 1 + 1 + 1, 0, none⟩) 1 1] 91) := by
    rw [heap_alloc_old _ _ (by simp)]
    have h := heap_alloc_new (((((w.alloc (.cells #[.int .i64 3, .int .i64 0, .string ⟨#[]⟩, .slice (some ⟨x, ox, none⟩) 2 cx] 61)).alloc (.cells #[.int .i64 3, .int .i64 0, .string ⟨#[]⟩, .slice (some ⟨y, oy, none⟩) 2 cy] 61)).alloc (.map #[] 0)).alloc (.cells #[.int .i64 3, .int .i64 0, .string ⟨#[]⟩, .slice (some ⟨x, ox, none⟩) 2 cx] 61)).alloc (.cells #[.int .i64 3, .int .i64 0, .string ⟨#[]⟩, .slice (some ⟨y, oy, none⟩) 2 cy] 61)) (.cells #[.slice (some ⟨w.heap.size + 1 + 1 + 1, 0, none⟩) 1 1, .slice (some ⟨w.heap.size + 1 + 1 + 1 + 1, 0, none⟩) 1 1] 91)
    simpa using h
  have hWB : Below w.heap.size w (((((((w.alloc (.cells #[.int .i64 3, .int .i64 0, .string ⟨#[]⟩, .slice (some ⟨x, ox, none⟩) 2 cx] 61)).alloc (.cells #[.int .i64 3, .int .i64 0, .string ⟨#[]⟩, .slice (some ⟨y, oy, none⟩) 2 cy] 61)).alloc (.map #[] 0)).alloc (.cells #[.int .i64 3, .int .i64 0, .string ⟨#[]⟩, .slice (some ⟨x, ox, none⟩) 2 cx] 61)).alloc (.cells #[.int .i64 3, .int .i64 0, .string ⟨#[]⟩, .slice (some ⟨y, oy, none⟩) 2 cy] 61)).alloc (.cells #[.slice (some ⟨w.heap.size + 1 + 1 + 1, 0, none⟩) 1 1, .slice (some ⟨w.heap.size + 1 + 1 + 1 + 1, 0, none⟩) 1 1] 91)).alloc (.cells #[.slice (some ⟨w.heap.size + 1 + 1 + 1, 0, none⟩) 1 1, .slice (some ⟨w.heap.size + 1 + 1 + 1 + 1, 0, none⟩) 1 1] 91)) :=
    (((((((Below.refl _ _).alloc (Nat.le_refl _) _).alloc (by simp) _).alloc (by simp; omega) _).alloc (by simp; omega) _).alloc (by simp; omega) _).alloc (by simp; omega) _).alloc (by simp; omega) _
  have hWs : (((((((w.alloc (.cells #[.int .i64 3, .int .i64 0, .string ⟨#[]⟩, .slice (some ⟨x, ox, none⟩) 2 cx] 61)).alloc (.cells #[.int .i64 3, .int .i64 0, .string ⟨#[]⟩, .slice (some ⟨y, oy, none⟩) 2 cy] 61)).alloc (.map #[] 0)).alloc (.cells #[.int .i64 3, .int .i64 0, .string ⟨#[]⟩, .slice (some ⟨x, ox, none⟩) 2 cx] 61)).alloc (.cells #[.int .i64 3, .int .i64 0, .string ⟨#[]⟩, .slice (some ⟨y, oy, none⟩) 2 cy] 61)).alloc (.cells #[.slice (some ⟨w.heap.size + 1 + 1 + 1, 0, none⟩) 1 1, .slice (some ⟨w.heap.size + 1 + 1 + 1 + 1, 0, none⟩) 1 1] 91)).alloc (.cells #[.slice (some ⟨w.heap.size + 1 + 1 + 1, 0, none⟩) 1 1, .slice (some ⟨w.heap.size + 1 + 1 + 1 + 1, 0, none⟩) 1 1] 91)).heap.size = w.heap.size + 7 := by simp
  generalize (((((((w.alloc (.cells #[.int .i64 3, .int .i64 0, .string ⟨#[]⟩, .slice (some ⟨x, ox, none⟩) 2 cx] 61)).alloc (.cells #[.int .i64 3, .int .i64 0, .string ⟨#[]⟩, .slice (some ⟨y, oy, none⟩) 2 cy] 61)).alloc (.map #[] 0)).alloc (.cells #[.int .i64 3, .int .i64 0, .string ⟨#[]⟩, .slice (some ⟨x, ox, none⟩) 2 cx] 61)).alloc (.cells #[.int .i64 3, .int .i64 0, .string ⟨#[]⟩, .slice (some ⟨y, oy, none⟩) 2 cy] 61)).alloc (.cells #[.slice (some ⟨w.heap.size + 1 + 1 + 1, 0, none⟩) 1 1, .slice (some ⟨w.heap.size + 1 + 1 + 1 + 1, 0, none⟩) 1 1] 91)).alloc (.cells #[.slice (some ⟨w.heap.size + 1 + 1 + 1, 0, none⟩) 1 1, .slice (some ⟨w.heap.size + 1 + 1 + 1 + 1, 0, none⟩) 1 1] 91)) = W at *
  have hc := hS
  obtain ⟨p0, p1, a0, a1, a2, a3, b0, b1, b2, b3⟩ := hc
  go_still (by kernel_rfl)
  change Exit.then _ _ _ _ (World.drew W)
  have hS_1 : EqA (w.heap.size + 1 + 1 + 1 + 1 + 1 + 1) (w.heap.size + 1 + 1 + 1) (w.heap.size + 1 + 1 + 1 + 1) x ox cx y oy cy (World.drew W) := (hS).kept (fun _ _ _ => rfl)
  have hmap_1 : (World.drew W).heap[w.heap.size + 1 + 1]? = some (.map #[] 0) := hmap
  have hleft_1 : (World.drew W).heap[w.heap.size + 1 + 1 + 1 + 1 + 1]? = some (.cells #[.slice (some ⟨w.heap.size + 1 + 1 + 1, 0, none⟩) 1 1, .slice (some ⟨w.heap.size + 1 + 1 + 1 + 1, 0, none⟩) 1 1] 91) := hleft
  have hWB_1 : Below w.heap.size w (World.drew W) := (hWB).drew
  have hWs_1 : (World.drew W).heap.size = w.heap.size + 7 := hWs
  clear hS hmap hleft hWB hWs p0 p1 a0 a1 a2 a3 b0 b1 b2 b3
  generalize World.drew W = W1 at *
  go_wp2_with fail
  have hc := hS_1
  obtain ⟨p0, p1, a0, a1, a2, a3, b0, b1, b2, b3⟩ := hc
  go_still (by kernel_rfl)
  change Exit.then _ _ _ _ (World.drew W1)
  have hS_2 : EqA (w.heap.size + 1 + 1 + 1 + 1 + 1 + 1) (w.heap.size + 1 + 1 + 1) (w.heap.size + 1 + 1 + 1 + 1) x ox cx y oy cy (World.drew W1) := (hS_1).kept (fun _ _ _ => rfl)
  have hmap_2 : (World.drew W1).heap[w.heap.size + 1 + 1]? = some (.map #[] 0) := hmap_1
  have hleft_2 : (World.drew W1).heap[w.heap.size + 1 + 1 + 1 + 1 + 1]? = some (.cells #[.slice (some ⟨w.heap.size + 1 + 1 + 1, 0, none⟩) 1 1, .slice (some ⟨w.heap.size + 1 + 1 + 1 + 1, 0, none⟩) 1 1] 91) := hleft_1
  have hWB_2 : Below w.heap.size w (World.drew W1) := (hWB_1).drew
  have hWs_2 : (World.drew W1).heap.size = w.heap.size + 7 := hWs_1
  clear hS_1 hmap_1 hleft_1 hWB_1 hWs_1 p0 p1 a0 a1 a2 a3 b0 b1 b2 b3
  generalize World.drew W1 = W2 at *
  go_wp2_with fail
  have hS3 : EqA (w.heap.size + 1 + 1 + 1 + 1 + 1 + 1) (w.heap.size + 1 + 1 + 1) (w.heap.size + 1 + 1 + 1 + 1) x ox cx y oy cy (World.drew W2) := (hS_2).kept (fun _ _ _ => rfl)
  have hHX := HX.out
  obtain ⟨xc, xt, hxb⟩ := hHX.1.2.2.2.2.2.2.2.2
  obtain ⟨yc, yt, hyb⟩ := hHX.2.2.2.2.2.2.2.2.2
  clear hHX
  have hxl : x < W2.heap.size := Nat.lt_of_lt_of_le (lt_of_heap hxb) hWB_2.size
  have hyl : y < W2.heap.size := Nat.lt_of_lt_of_le (lt_of_heap hyb) hWB_2.size
  have hx2 : W2.heap[x]? = some (.cells xc xt (0, 0)) := by rw [hWB_2.block _ (lt_of_heap hxb)]; exact hxb
  have hy2 : W2.heap[y]? = some (.cells yc yt (0, 0)) := by rw [hWB_2.block _ (lt_of_heap hyb)]; exact hyb
  have HXY := Lib.hid (And.intro hx2 (And.intro hy2 (And.intro hxl hyl)))
  clear hx2 hy2 hxl hyl hxb hyb
  go_region_held (fun w' => w'.cell? ⟨w.heap.size + 1 + 1 + 1 + 1 + 1 + 1, 0, none⟩ = some (.slice (some ⟨w.heap.size + 1 + 1 + 1, 0, none⟩) 1 1) ∧ w'.cell? ⟨w.heap.size + 1 + 1 + 1 + 1 + 1 + 1, 1, none⟩ = some (.slice (some ⟨w.heap.size + 1 + 1 + 1 + 1, 0, none⟩) 1 1) ∧ w'.cell? ⟨w.heap.size + 1 + 1 + 1, 0, none⟩ = some (.int .i64 3) ∧ w'.cell? ⟨w.heap.size + 1 + 1 + 1, 1, none⟩ = some (.int .i64 0) ∧ w'.cell? ⟨w.heap.size + 1 + 1 + 1, 2, none⟩ = some (.string ⟨#[]⟩) ∧ w'.cell? ⟨w.heap.size + 1 + 1 + 1, 3, none⟩ = some (.slice (some ⟨x, ox, none⟩) 2 cx) ∧ w'.cell? ⟨w.heap.size + 1 + 1 + 1 + 1, 0, none⟩ = some (.int .i64 3) ∧ w'.cell? ⟨w.heap.size + 1 + 1 + 1 + 1, 1, none⟩ = some (.int .i64 0) ∧ w'.cell? ⟨w.heap.size + 1 + 1 + 1 + 1, 2, none⟩ = some (.string ⟨#[]⟩) ∧ w'.cell? ⟨w.heap.size + 1 + 1 + 1 + 1, 3, none⟩ = some (.slice (some ⟨y, oy, none⟩) 2 cy)) (first | exact hS3 | exact hS7 | exact hS6 | exact hS5) (first | (go_at_call_of 61 (Value.slice (some ⟨x, ox, none⟩) 2 cx); refine (place_p x ox 2 cx (by decide) _).mono ?_; rintro _ w3 ⟨rfl, hb3⟩; have hS5 : EqA (w.heap.size + 1 + 1 + 1 + 1 + 1 + 1) (w.heap.size + 1 + 1 + 1) (w.heap.size + 1 + 1 + 1 + 1) x ox cx y oy cy w3 := EqA.below hS3 hb3) | (go_at_call_of 61 (Value.slice (some ⟨y, oy, none⟩) 2 cy); refine (place_p y oy 2 cy (by decide) _).mono ?_; rintro _ w4 ⟨rfl, hb4⟩; have hS6 : EqA (w.heap.size + 1 + 1 + 1 + 1 + 1 + 1) (w.heap.size + 1 + 1 + 1) (w.heap.size + 1 + 1 + 1 + 1) x ox cx y oy cy w4 := EqA.below hS5 hb4) | (go_at_call 60; refine (join_p (w.heap.size + 1 + 1) ⟨x, ox, none⟩ ⟨y, oy, none⟩ 2 2 (by intro e; exact hxy (Addr.mk.inj e).1) _ ?_ ?_ ?_).mono ?_; (rw [hb4.block _ (by have := hb3.size; have : (World.drew W2).heap.size = W2.heap.size := rfl; omega), hb3.block _ (by have : (World.drew W2).heap.size = W2.heap.size := rfl; omega)]; exact hmap_2); (exact ⟨xc, xt, (show w4.heap[x]? = some (.cells xc xt (0, 0)) by rw [hb4.block x (by have := hb3.size; have : (World.drew W2).heap.size = W2.heap.size := rfl; have := HXY.out.2.2.1; have := HXY.out.2.2.2; omega), hb3.block x (by have : (World.drew W2).heap.size = W2.heap.size := rfl; have := HXY.out.2.2.1; have := HXY.out.2.2.2; omega)]; exact HXY.out.1)⟩); (exact ⟨yc, yt, (show w4.heap[y]? = some (.cells yc yt (0, 0)) by rw [hb4.block y (by have := hb3.size; have : (World.drew W2).heap.size = W2.heap.size := rfl; have := HXY.out.2.2.1; have := HXY.out.2.2.2; omega), hb3.block y (by have : (World.drew W2).heap.size = W2.heap.size := rfl; have := HXY.out.2.2.1; have := HXY.out.2.2.2; omega)]; exact HXY.out.2.1)⟩); rintro _ w5 ⟨rfl, w6, hb6, rfl⟩; have hS7 := EqA.kept (EqA.below hS6 hb6) (W' := putMap w6 (w.heap.size + 1 + 1) ⟨x, ox, none⟩ ⟨y, oy, none⟩ 2 2) (fun j _ hj => putMap_old _ _ _ _ _ _ j (by rcases hj with h | h | h <;> omega))))
  have hdq : (World.drew W2).heap.size = W2.heap.size := rfl
  have hV : EqA (w.heap.size + 1 + 1 + 1 + 1 + 1 + 1) (w.heap.size + 1 + 1 + 1) (w.heap.size + 1 + 1 + 1 + 1) x ox cx y oy cy (putMap w6 (w.heap.size + 1 + 1) ⟨x, ox, none⟩ ⟨y, oy, none⟩ 2 2) := hS7
  have hlt5 : w.heap.size + 1 + 1 + 1 + 1 + 1 < W2.heap.size := by omega
  have hleftV : (putMap w6 (w.heap.size + 1 + 1) ⟨x, ox, none⟩ ⟨y, oy, none⟩ 2 2).heap[w.heap.size + 1 + 1 + 1 + 1 + 1]? = some (.cells #[.slice (some ⟨w.heap.size + 1 + 1 + 1, 0, none⟩) 1 1, .slice (some ⟨w.heap.size + 1 + 1 + 1 + 1, 0, none⟩) 1 1] 91) := by
    rw [putMap_old _ _ _ _ _ _ _ (by omega), hb6.block _ (by have := hb3.size; have := hb4.size; omega), hb4.block _ (by have := hb3.size; omega), hb3.block _ (by omega)]
    exact hleft_2
  have hVB : Below w.heap.size w (putMap w6 (w.heap.size + 1 + 1) ⟨x, ox, none⟩ ⟨y, oy, none⟩ 2 2) := by
    have h3 : Below w.heap.size w w3 := (hWB_2.drew).trans (hb3.mono (by omega))
    have h4 : Below w.heap.size w w4 := h3.trans (hb4.mono h3.size)
    have h6 : Below w.heap.size w w6 := h4.trans (hb6.mono h4.size)
    exact h6.trans (putMap_below _ _ _ _ _ _ _ (by omega))
  have hVs : w.heap.size + 7 ≤ (putMap w6 (w.heap.size + 1 + 1) ⟨x, ox, none⟩ ⟨y, oy, none⟩ 2 2).heap.size := by
    have := (putMap_below w6 (w.heap.size + 1 + 1) ⟨x, ox, none⟩ ⟨y, oy, none⟩ 2 2 0 (by omega)).size
    have := hb3.size
    have := hb4.size
    have := hb6.size
    omega
  clear hdq hb3 hb4 hb6 hS5 hS6 hS7 HXY hS3 hS_2 hmap_2 hleft_2 hWB_2 hWs_2 hlt5
  generalize putMap w6 (w.heap.size + 1 + 1) ⟨x, ox, none⟩ ⟨y, oy, none⟩ 2 2 = V at *
  clear w3 w4 w6 W2
  go_wp2_with fail
  have hleft2 : V.drew.heap[w.heap.size + 1 + 1 + 1 + 1 + 1]? = some (.cells #[.slice (some ⟨w.heap.size + 1 + 1 + 1, 0, none⟩) 1 1, .slice (some ⟨w.heap.size + 1 + 1 + 1 + 1, 0, none⟩) 1 1] 91) := hleftV
  have hVB2 : Below w.heap.size w V.drew := hVB.drew
  have hVs2 : w.heap.size + 7 ≤ V.drew.heap.size := hVs
  have hV2 : EqA (w.heap.size + 1 + 1 + 1 + 1 + 1 + 1) (w.heap.size + 1 + 1 + 1) (w.heap.size + 1 + 1 + 1 + 1) x ox cx y oy cy V.drew := hV.kept (fun _ _ _ => rfl)
  clear hleftV hVB hVs hV
  have hown : V.drew.ownsRow w.heap.size 91 2 (.slice (some ⟨w.heap.size + 1 + 1 + 1 + 1 + 1, 0, none⟩) 0 1) 0 [] :=
    ⟨rfl, .inr ⟨w.heap.size + 1 + 1 + 1 + 1 + 1, 1, _, rfl, by omega, hleft2, by omega, by unfold maxLen; omega, rfl, rfl⟩⟩
  obtain ⟨i1, hi1, hy0, hy1, hy2⟩ := info_parts infoPair
  have HOW := Lib.hid hown
  have HV2 := Lib.hid (And.intro hVB2 hVs2)
  clear hown hleft2 hVB2 hVs2
  refine wp_region_held (S := EqA (w.heap.size + 1 + 1 + 1 + 1 + 1 + 1) (w.heap.size + 1 + 1 + 1) (w.heap.size + 1 + 1 + 1 + 1) x ox cx y oy cy) (by kernel_rfl) ?_
  change wpAnyH _ _ _ _ _ _ _ _ (World.drew V)
  refine wpAnyH_take (i := 0) (v := Value.slice (some ⟨w.heap.size + 1 + 1 + 1 + 1 + 1, 0, none⟩) 0 1) rfl (by kernel_rfl) (by kernel_rfl) (by kernel_rfl) (fun _ _ _ h => h) (Or.inl ⟨by rfl, ?_⟩) hV2 ?_
  · intro w' ⟨s0, s1, s2, s3, s4, s5, s6, s7, s8, s9⟩; go_simp
  try simp only [Act.put, List.getElem_toArray, List.getElem_cons_zero, List.setIfInBounds_toArray, List.set_cons_zero, List.set_cons_succ]
  refine wpAnyH_take (i := 1) (v := Value.pointer (some ⟨w.heap.size + 1 + 1 + 1, 0, none⟩)) rfl (by kernel_rfl) (by kernel_rfl) (by kernel_rfl) (fun _ _ _ h => h) (Or.inl ⟨by rfl, ?_⟩) hV2 ?_
  · intro w' ⟨s0, s1, s2, s3, s4, s5, s6, s7, s8, s9⟩; go_simp
  try simp only [Act.put, List.getElem_toArray, List.getElem_cons_zero, List.getElem_cons_succ, List.setIfInBounds_toArray, List.set_cons_zero, List.set_cons_succ]
  refine wpAnyH_take (i := 2) (v := Value.pointer (some ⟨w.heap.size + 1 + 1 + 1, 0, none⟩)) rfl (by kernel_rfl) (by kernel_rfl) (by kernel_rfl) (fun _ _ _ h => h) (Or.inl ⟨by rfl, ?_⟩) hV2 ?_
  · intro w' ⟨s0, s1, s2, s3, s4, s5, s6, s7, s8, s9⟩; go_simp
  try simp only [Act.put, List.getElem_toArray, List.getElem_cons_zero, List.getElem_cons_succ, List.setIfInBounds_toArray, List.set_cons_zero, List.set_cons_succ]
  refine wpAnyH_take (i := 3) (v := Value.pointer (some ⟨w.heap.size + 1 + 1 + 1, 3, none⟩)) rfl (by kernel_rfl) (by kernel_rfl) (by kernel_rfl) (fun _ _ _ h => h) (Or.inl ⟨by rfl, ?_⟩) hV2 ?_
  · intro w' ⟨s0, s1, s2, s3, s4, s5, s6, s7, s8, s9⟩; go_simp
  try simp only [Act.put, List.getElem_toArray, List.getElem_cons_zero, List.getElem_cons_succ, List.setIfInBounds_toArray, List.set_cons_zero, List.set_cons_succ]
  refine wpAnyH_take (i := 4) (v := Value.slice (some ⟨x, ox, none⟩) 2 cx) rfl (by kernel_rfl) (by kernel_rfl) (by kernel_rfl) (fun _ _ _ h => h) (Or.inl ⟨by rfl, ?_⟩) hV2 ?_
  · intro w' ⟨s0, s1, s2, s3, s4, s5, s6, s7, s8, s9⟩; go_simp
  try simp only [Act.put, List.getElem_toArray, List.getElem_cons_zero, List.getElem_cons_succ, List.setIfInBounds_toArray, List.set_cons_zero, List.set_cons_succ]
  refine wpAnyH_take (i := 5) (v := Value.pointer (some ⟨w.heap.size + 1 + 1 + 1 + 1, 0, none⟩)) rfl (by kernel_rfl) (by kernel_rfl) (by kernel_rfl) (fun _ _ _ h => h) (Or.inl ⟨by rfl, ?_⟩) hV2 ?_
  · intro w' ⟨s0, s1, s2, s3, s4, s5, s6, s7, s8, s9⟩; go_simp
  try simp only [Act.put, List.getElem_toArray, List.getElem_cons_zero, List.getElem_cons_succ, List.setIfInBounds_toArray, List.set_cons_zero, List.set_cons_succ]
  refine wpAnyH_take (i := 6) (v := Value.pointer (some ⟨w.heap.size + 1 + 1 + 1 + 1, 0, none⟩)) rfl (by kernel_rfl) (by kernel_rfl) (by kernel_rfl) (fun _ _ _ h => h) (Or.inl ⟨by rfl, ?_⟩) hV2 ?_
  · intro w' ⟨s0, s1, s2, s3, s4, s5, s6, s7, s8, s9⟩; go_simp
  try simp only [Act.put, List.getElem_toArray, List.getElem_cons_zero, List.getElem_cons_succ, List.setIfInBounds_toArray, List.set_cons_zero, List.set_cons_succ]
  refine wpAnyH_take (i := 7) (v := Value.pointer (some ⟨w.heap.size + 1 + 1 + 1 + 1, 3, none⟩)) rfl (by kernel_rfl) (by kernel_rfl) (by kernel_rfl) (fun _ _ _ h => h) (Or.inl ⟨by rfl, ?_⟩) hV2 ?_
  · intro w' ⟨s0, s1, s2, s3, s4, s5, s6, s7, s8, s9⟩; go_simp
  try simp only [Act.put, List.getElem_toArray, List.getElem_cons_zero, List.getElem_cons_succ, List.setIfInBounds_toArray, List.set_cons_zero, List.set_cons_succ]
  refine wpAnyH_take (i := 8) (v := Value.slice (some ⟨y, oy, none⟩) 2 cy) rfl (by kernel_rfl) (by kernel_rfl) (by kernel_rfl) (fun _ _ _ h => h) (Or.inl ⟨by rfl, ?_⟩) hV2 ?_
  · intro w' ⟨s0, s1, s2, s3, s4, s5, s6, s7, s8, s9⟩; go_simp
  try simp only [Act.put, List.getElem_toArray, List.getElem_cons_zero, List.getElem_cons_succ, List.setIfInBounds_toArray, List.set_cons_zero, List.set_cons_succ]
  refine wpAnyH_take (i := 9) (v := Value.agg #[.slice (some ⟨x, ox, none⟩) 2 cx, .slice (some ⟨y, oy, none⟩) 2 cy]) rfl (by kernel_rfl) (by kernel_rfl) (by kernel_rfl) (fun _ _ _ h => h) (Or.inl ⟨by rfl, ?_⟩) hV2 ?_
  · intro w' ⟨s0, s1, s2, s3, s4, s5, s6, s7, s8, s9⟩; go_simp
  try simp only [Act.put, List.getElem_toArray, List.getElem_cons_zero, List.getElem_cons_succ, List.setIfInBounds_toArray, List.set_cons_zero, List.set_cons_succ]
  refine wpAnyH_ready (rs := [10]) (by kernel_rfl) (by simp) ?_
  refine AllReadyH.cons rfl (fun K hK => ?_) AllReadyH.nil
  go_simp
  have hcc : Below V.drew.heap.size V.drew (V.alloc (.cells #[.slice (some ⟨x, ox, none⟩) 2 cx, .slice (some ⟨y, oy, none⟩) 2 cy] 91)).drew := ((Below.refl _ _).alloc (Nat.le_refl _) _)
  refine hK.out _ _ (EqA.below hV2 hcc) (fun hS1 => ?_)
  clear hK
  have hown1 := owns_below HOW.out hcc
  refine wpAnyH_ready (rs := [11]) (by kernel_rfl) (by simp) ?_
  refine AllReadyH.cons rfl (fun K2 hK2 => ?_) AllReadyH.nil
  rw [if_pos (by rfl)]
  refine op_append_at (.tmp 110) (.tmp 120) 92 rfl w.heap.size 91 i1 _ 2 48 Tryz.underlying92 hi1 hy0 hy1 hy2 rfl (by decide) (.slice (some ⟨w.heap.size + 1 + 1 + 1 + 1 + 1, 0, none⟩) 0 1) 0 [] rfl hown1 ⟨V.heap.size, 0, none⟩ 1 1 [.slice (some ⟨x, ox, none⟩) 2 cx, .slice (some ⟨y, oy, none⟩) 2 cy] rfl rfl ?_ ?_ ?_ ?_ ?_ ?_
  · intro j u hj
    rcases j with _ | _ | j
    · cases hj; go_simp
    · cases hj; go_simp
    · simp at hj
  · intro u hu
    simp at hu
    rcases hu with rfl | rfl <;> rfl
  · unfold maxLen; omega
  · omega
  · have := HV2.out.1.size
    have := hcc.size
    omega
  intro v' w9 hown9 hgrow9 hloc9
  have hcl := fun {g : Nat} (hv : v'.ownBlock = some g) => hown9.cells (g := g) hv
  have hw9 : Below w.heap.size w w9 := (HV2.out.1.trans (hcc.mono HV2.out.1.size)).grown hgrow9 (Nat.le_trans HV2.out.1.size hcc.size) (owns_base hown1)
  have hS9 : EqA (w.heap.size + 1 + 1 + 1 + 1 + 1 + 1) (w.heap.size + 1 + 1 + 1) (w.heap.size + 1 + 1 + 1 + 1) x ox cx y oy cy w9 := hS1.kept (fun j hj he => hgrow9.block j hj (by
    intro e
    have e2 : (some (w.heap.size + 1 + 1 + 1 + 1 + 1) : Option Nat) = some j := by first | exact e | exact e.symm
    have e3 := Option.some.inj e2
    rcases he with h | h | h <;> omega))
  rcases hown9.2 with ⟨_, h0⟩ | ⟨g, cap9, cur9, rfl, hBg, hg9, _⟩
  · omega
  have l0 : w9.cell? ⟨g, 0, none⟩ = some (.slice (some ⟨x, ox, none⟩) 2 cx) := by simpa [Addr.add] using hcl rfl 0 _ rfl
  have l1 : w9.cell? ⟨g, 1, none⟩ = some (.slice (some ⟨y, oy, none⟩) 2 cy) := by simpa [Addr.add] using hcl rfl 1 _ rfl
  have HW9 := Lib.hid hw9
  clear hcl hown9 hgrow9 hg9 hw9 hBg HOW HV2 hown1 hcc hS1 hV2 hloc9
  go_simp
  refine hK2.out _ _ hS9 (fun _ => ?_)
  clear hK2
  refine wpAnyH_ready (rs := [12]) (by kernel_rfl) (by simp) ?_
  refine AllReadyH.cons rfl (fun K3 hK3 => ?_) AllReadyH.nil
  go_simp
  refine hK3.out _ _ hS9 (fun _ => ?_)
  clear hK3 hS9
  refine wpAnyH_done (by kernel_rfl) ?_ _
  go_wp2_with fail
  rw [rounds_succ]
  go_wp2_with fail
  rw [rounds_succ]
  go_wp2_with fail
  refine wp_loop_rounds 3 ?_
  rw [rounds_succ]
  go_wp2_with fail
  have hU0 : Below w.heap.size w (w9.alloc (.cells #[.slice (some ⟨x, ox, none⟩) 2 cx, .slice (some ⟨y, oy, none⟩) 2 cy] 91)) := HW9.out.alloc HW9.out.size _
  obtain ⟨P, hP⟩ : ∃ P, P = w9.heap.size := ⟨_, rfl⟩
  obtain ⟨a1, a2, a3, a4, c1, c2, c3, c4, hE0⟩ := EqB.mk (p := P) (cx := cx) (cy := cy) hU0 HX.out.1 HX.out.2 (by rw [hP]; go_simp) (by rw [hP]; go_simp)
  rw [← hP]
  clear l0 l1 HW9 hP
  generalize w9.alloc (.cells #[.slice (some ⟨x, ox, none⟩) 2 cx, .slice (some ⟨y, oy, none⟩) 2 cy] 91) = U0 at *
  have hc := hE0
  obtain ⟨q0, q1, x0, x1, x2, x3, x4, x5, x5b, x6, x6b, x7, x7b, y0, y1, y2, y3, y4, y5, y5b, y6, y6b, y7, y7b⟩ := hc
  go_still (by kernel_rfl)
  change Exit.then _ _ _ _ (World.drew U0)
  have hE1 : EqB P x ox cx y oy cy a1 a2 a3 a4 c1 c2 c3 c4 (World.drew U0) := hE0
  have hU1 : Below w.heap.size w (World.drew U0) := (hU0).drew
  clear hE0 hU0 q0 q1 x0 x1 x2 x3 x4 x5 x5b x6 x6b x7 x7b y0 y1 y2 y3 y4 y5 y5b y6 y6b y7 y7b
  generalize World.drew U0 = U1 at *
  go_wp2_with fail
  have hc := hE1
  obtain ⟨q0, q1, x0, x1, x2, x3, x4, x5, x5b, x6, x6b, x7, x7b, y0, y1, y2, y3, y4, y5, y5b, y6, y6b, y7, y7b⟩ := hc
  go_still (by kernel_rfl)
  change Exit.then _ _ _ _ (World.drew U1)
  have hE2 : EqB P x ox cx y oy cy a1 a2 a3 a4 c1 c2 c3 c4 (World.drew U1) := hE1
  have hU2 : Below w.heap.size w (World.drew U1) := (hU1).drew
  clear hE1 hU1 q0 q1 x0 x1 x2 x3 x4 x5 x5b x6 x6b x7 x7b y0 y1 y2 y3 y4 y5 y5b y6 y6b y7 y7b
  generalize World.drew U1 = U2 at *
  go_wp2_with fail
  have hc := hE2
  obtain ⟨q0, q1, x0, x1, x2, x3, x4, x5, x5b, x6, x6b, x7, x7b, y0, y1, y2, y3, y4, y5, y5b, y6, y6b, y7, y7b⟩ := hc
  clear q0 q1 x0 x1 x2 x4 x5 x5b x6 x6b x7 x7b y0 y1 y2 y3 y4 y5 y5b y6 y6b y7 y7b
  go_quiet (fail)
  have hE3 : EqB P x ox cx y oy cy a1 a2 a3 a4 c1 c2 c3 c4 (World.drewN U2 nq) := hE2
  have hU3 : Below w.heap.size w (World.drewN U2 nq) := ⟨(hU2).os, (hU2).tape, (hU2).output, (hU2).size, (hU2).block⟩
  clear hE2 hU2 x3
  generalize World.drewN U2 nq = U3 at *
  go_wp2_with fail
  rw [rounds_succ]
  go_wp2_with fail
  have hc := hE3
  obtain ⟨q0, q1, x0, x1, x2, x3, x4, x5, x5b, x6, x6b, x7, x7b, y0, y1, y2, y3, y4, y5, y5b, y6, y6b, y7, y7b⟩ := hc
  go_still (by kernel_rfl)
  change Exit.then _ _ _ _ (World.drew U3)
  have hE4 : EqB P x ox cx y oy cy a1 a2 a3 a4 c1 c2 c3 c4 (World.drew U3) := hE3
  have hU4 : Below w.heap.size w (World.drew U3) := (hU3).drew
  clear hE3 hU3 q0 q1 x0 x1 x2 x3 x4 x5 x5b x6 x6b x7 x7b y0 y1 y2 y3 y4 y5 y5b y6 y6b y7 y7b
  generalize World.drew U3 = U4 at *
  go_wp2_with fail
  have hc := hE4
  obtain ⟨q0, q1, x0, x1, x2, x3, x4, x5, x5b, x6, x6b, x7, x7b, y0, y1, y2, y3, y4, y5, y5b, y6, y6b, y7, y7b⟩ := hc
  go_still (by kernel_rfl)
  change Exit.then _ _ _ _ (World.drew U4)
  have hE5 : EqB P x ox cx y oy cy a1 a2 a3 a4 c1 c2 c3 c4 (World.drew U4) := hE4
  have hU5 : Below w.heap.size w (World.drew U4) := (hU4).drew
  clear hE4 hU4 q0 q1 x0 x1 x2 x3 x4 x5 x5b x6 x6b x7 x7b y0 y1 y2 y3 y4 y5 y5b y6 y6b y7 y7b
  generalize World.drew U4 = U5 at *
  go_wp2_with fail
  have hc := hE5
  obtain ⟨q0, q1, x0, x1, x2, x3, x4, x5, x5b, x6, x6b, x7, x7b, y0, y1, y2, y3, y4, y5, y5b, y6, y6b, y7, y7b⟩ := hc
  clear q0 q1 x0 x1 x2 x3 x4 x5 x5b x6 x6b y0 y1 y2 y3 y4 y5 y5b y6 y6b y7 y7b
  go_quiet (fail)
  have hE6 : EqB P x ox cx y oy cy a1 a2 a3 a4 c1 c2 c3 c4 (World.drewN U5 nq) := hE5
  have hU6 : Below w.heap.size w (World.drewN U5 nq) := ⟨(hU5).os, (hU5).tape, (hU5).output, (hU5).size, (hU5).block⟩
  clear hE5 hU5 x7 x7b
  generalize World.drewN U5 nq = U6 at *
  go_wp2_with fail
  rw [rounds_succ]
  go_wp2_with fail
  rw [rounds_succ]
  go_wp2_with fail
  go_ret
  exact ⟨rfl, hU6⟩

end Go.Proofs.YtmamepmfbfinlaaGreatDoor
