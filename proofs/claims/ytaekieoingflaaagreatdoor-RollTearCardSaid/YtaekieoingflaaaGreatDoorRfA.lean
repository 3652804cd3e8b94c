/-
  The reference's chest in memory: its Room, At, out, in, names, New, Press, Cut; a region whose last operation waits for all.
-/
import Derived.Test.YtaekieoingflaaaGreatDoorRoll15
import Derived.BigQuiet
import Derived.Deep.RegionLaw
import Derived.Deep.AppendLies
import Derived.Deep.RegionHeld3
import Derived.Lib.SlFresh
import Derived.BigRegion
namespace Go.Proofs.YtaekieoingflaaaGreatDoor
open Go.RowKit Go.Maps Go.Proofs.MapD Go.Proofs.Chest

/-- The cells of the reference's rolls. -/
def rcells : Rolls → List Value
  | [] => []
  | e :: r => .string e.1 :: .string e.2.t :: .int .i64 e.2.p :: .bool e.2.s :: rcells r

theorem rcells_length (l : Rolls) : (rcells l).length = l.length * 4 := by
  induction l with
  | nil => rfl
  | cons e r ih => simp only [rcells, List.length_cons, ih]; omega

theorem rcells_append (l m : Rolls) : rcells (l ++ m) = rcells l ++ rcells m := by
  induction l with
  | nil => rfl
  | cons e r ih => simp only [rcells, List.cons_append, ih]

theorem rcells_at (l : Rolls) : ∀ (k : Nat) (hk : k < l.length), (rcells l)[k * 4]? = some (.string l[k].1) ∧ (rcells l)[k * 4 + 1]? = some (.string l[k].2.t) ∧ (rcells l)[k * 4 + 2]? = some (.int .i64 l[k].2.p) ∧ (rcells l)[k * 4 + 3]? = some (.bool l[k].2.s) := by
  induction l with
  | nil => intro k hk; cases hk
  | cons e r ih =>
    intro k hk
    cases k with
    | zero => exact ⟨rfl, rfl, rfl, rfl⟩
    | succ k =>
      have := ih k (by simpa using hk)
      rw [show (k + 1) * 4 = k * 4 + 4 by omega]
      simp only [rcells, List.getElem_cons_succ]
      exact this

/-- A chest of the reference's, in memory: its block c, its room at first z, the slice of its rolls. -/
structure RC (w : World) (B c z : Nat) (ad : Option Addr) (cap : Nat) (l : Rolls) : Prop where
  c0 : w.cell? ⟨c, 0, none⟩ = some (.int .i64 z)
  c1 : w.cell? ⟨c, 1, none⟩ = some (.slice ad l.length cap)
  f0 : w.frozen? ⟨c, 0, none⟩ = false
  f1 : w.frozen? ⟨c, 1, none⟩ = false
  row : w.ownsRow B 63 4 (.slice ad l.length cap) l.length (rcells l)
  apart : ∀ g, (Value.slice ad l.length cap).ownBlock = some g → g ≠ c
  base : B ≤ c

theorem RC.at {w : World} {B c z : Nat} {ad : Option Addr} {cap : Nat} {l : Rolls} (h : RC w B c z ad cap l) {k : Nat} (hk : k < l.length) :
    ∃ g, ad = some ⟨g, 0, none⟩ ∧ l.length ≤ cap ∧ cap ≤ maxLen ∧ w.cell? ⟨g, k * 4, none⟩ = some (.string l[k].1) ∧ w.cell? ⟨g, k * 4 + 1, none⟩ = some (.string l[k].2.t) ∧ w.cell? ⟨g, k * 4 + 2, none⟩ = some (.int .i64 l[k].2.p) ∧ w.cell? ⟨g, k * 4 + 3, none⟩ = some (.bool l[k].2.s) := by
  have hr := h.row
  rcases hr.2 with ⟨h0, h1⟩ | ⟨g, cap', cur, hv, _, _, hn, hm, _⟩
  · omega
  · cases hv
    have hc := hr.cells (g := g) rfl
    obtain ⟨e0, e1, e2, e3⟩ := rcells_at l k hk
    have a (j : Nat) : (⟨g, 0, none⟩ : Addr).add j = ⟨g, j, none⟩ := by unfold Addr.add; split <;> simp_all
    refine ⟨g, rfl, hn, hm, ?_, ?_, ?_, ?_⟩
    · rw [← a]; exact hc _ _ e0
    · rw [← a]; exact hc _ _ e1
    · rw [← a]; exact hc _ _ e2
    · rw [← a]; exact hc _ _ e3

theorem total_take (l : Rolls) (k : Nat) (hk : k < l.length) : total (l.take (k + 1)) = total (l.take k) + l[k].2.t.size := by
  unfold total
  rw [List.take_succ_eq_append_getElem hk, List.map_append, List.sum_append]
  simp

theorem total_take_le (l : Rolls) (k : Nat) : total (l.take k) ≤ total l := by
  conv => rhs; rw [← List.take_append_drop k l]
  unfold total
  rw [List.map_append, List.sum_append]
  omega

set_option maxRecDepth 100000 in
set_option maxHeartbeats 4000000 in
theorem rroom_c {w : World} {B c z : Nat} {ad : Option Addr} {cap : Nat} {l : Rolls} (h : RC w B c z ad cap l) (ht : total l ≤ z) (hz : z ≤ 1048576) (hn : l.length ≤ 1000000) :
    Calls Tryz.prog 34 #[.pointer (some ⟨c, 0, none⟩)] w fun e w' => e = .returned (.int .i64 ((z : Int) - (total l : Nat))) ∧ w = w' := by
  have HR := Lib.hid h
  have HT := Lib.hid ht
  obtain ⟨c0, c1, _, _, _, _, _⟩ := h
  clear ht
  go_enter Tryz.func34, Tryz.ntmps34
  go_wp2
  go_loop [3, 4] (fun rv iv => ∃ (k : Nat) (r : Int), k ≤ l.length ∧ iv = .int .i64 k ∧ rv = .int .i64 r ∧ Hid (r = (z : Int) - (total (l.take k) : Nat))) (fun _ i => l.length - (intOf i).toNat)
  case atStart => exact ⟨0, _, by omega, rfl, rfl, Lib.hid (by simp [total])⟩
  case round =>
    obtain ⟨k, r, hk, rfl, rfl, HP⟩ := hrel
    by_cases hlt : k < l.length
    · obtain ⟨g, rfl, hlc, hcm, g0, g1, g2, g3⟩ := HR.out.at hlt
      have e1 := total_take l k hlt
      have e2 := total_take_le l (k + 1)
      have e3 := HT.out
      have e4 := HP.out
      obtain ⟨s, hs⟩ : ∃ s, l[k].2.t = s := ⟨_, rfl⟩
      rw [hs] at g1 e1
      have b1 : 0 ≤ r - (s.size : Int) := by omega
      have b2 : r ≤ 1048576 := by omega
      have HQ := Lib.hid (show r - (s.size : Int) = (z : Int) - (total (l.take (k + 1)) : Nat) by omega)
      clear e1 e2 e3 e4 hs g0 g2 g3
      have hlt' : (k : Int) < (l.length : Int) := by omega
      go_wp2
      all_goals
        go_round
        case rel => exact ⟨k + 1, _, by omega, by go_num, rfl, HQ⟩
        case measure => simp [intOf]; omega
    · have hge : k = l.length := by omega
      have hp := HP.out
      rw [hge, List.take_length] at hp
      subst hp
      subst hge
      go_wp2
      go_ret
      exact ⟨rfl, rfl⟩

/-- The order of names. -/
def blt (a b : ByteArray) : Bool := Op.bytesLess a.toList b.toList

/-- How many names stand ahead of n. -/
def place : Rolls → ByteArray → Nat
  | [], _ => 0
  | e :: r, n => if blt e.1 n = true then place r n + 1 else 0

/-- Whether n stands at its place. -/
def isAt (l : Rolls) (n : ByteArray) : Bool := match l[place l n]? with | none => false | some e => decide (e.1 = n)

theorem place_le (l : Rolls) (n : ByteArray) : place l n ≤ l.length := by
  induction l with
  | nil => exact Nat.le_refl _
  | cons e r ih => unfold place; split <;> simp only [List.length_cons] <;> omega

theorem place_cons (e : ByteArray × Rl) (r : Rolls) (n : ByteArray) : place (e :: r) n = if blt e.1 n = true then place r n + 1 else 0 := rfl

theorem drop_at (l : Rolls) (k : Nat) (hk : k < l.length) : l.drop k = l[k] :: l.drop (k + 1) := List.drop_eq_getElem_cons hk

theorem beq_eq_decide' (s n : ByteArray) : (s.data.toList == n.data.toList) = decide (s = n) := by
  rw [Bool.eq_iff_iff, beq_iff_eq, decide_eq_true_iff]
  exact ⟨fun h => by rcases s with ⟨⟨a⟩⟩; rcases n with ⟨⟨b⟩⟩; simp only at h; rw [h], fun h => by rw [h]⟩

set_option maxRecDepth 100000 in
set_option maxHeartbeats 4000000 in
theorem rat_c {w : World} {B c z : Nat} {ad : Option Addr} {cap : Nat} {l : Rolls} (h : RC w B c z ad cap l) (n : ByteArray) (hn : l.length ≤ 1000000) :
    Calls Tryz.prog 61 #[.pointer (some ⟨c, 0, none⟩), .string n] w fun e w' => e = .returned (.tuple #[.int .i64 (place l n), .bool (isAt l n)]) ∧ ∃ q, w' = w.drewN q := by
  have HR := Lib.hid h
  obtain ⟨K, hK⟩ : ∃ K, place l n = K := ⟨_, rfl⟩
  obtain ⟨R, hR⟩ : ∃ R, isAt l n = R := ⟨_, rfl⟩
  have HK := Lib.hid hK
  have HRR := Lib.hid hR
  rw [hK, hR]
  clear hK hR
  obtain ⟨c0, c1, _, _, _, _, _⟩ := h
  go_enter Tryz.func61, Tryz.ntmps61
  go_wp2
  go_loop [6] (fun iv => ∃ (k : Nat), k ≤ l.length ∧ iv = .int .i64 k ∧ Hid (k + place (l.drop k) n = K)) (fun i => l.length - (intOf i).toNat)
  case atStart => exact ⟨0, by omega, rfl, Lib.hid (by rw [List.drop_zero, HK.out]; omega)⟩
  case round =>
    obtain ⟨k, hk, rfl, HP⟩ := hrel
    by_cases hlt : k < l.length
    · obtain ⟨g, rfl, hlc, hcm, g0, g1, g2, g3⟩ := HR.out.at hlt
      have hlt' : (k : Int) < (l.length : Int) := by omega
      have hd : decide ((k : Int) < (l.length : Int)) = true := decide_eq_true hlt'
      have hp := HP.out
      rw [drop_at l k hlt] at hp
      rw [place_cons] at hp
      have HI : Hid (K = k → R = decide (l[k].1 = n)) := Lib.hid (fun e => by rw [← HRR.out]; unfold isAt; rw [HK.out, e, List.getElem?_eq_getElem hlt])
      obtain ⟨s, hs⟩ : ∃ s, l[k].1 = s := ⟨_, rfl⟩
      rw [hs] at g0 hp HI
      clear g1 g2 g3 hs
      cases hb : blt s n with
      | true =>
        rw [if_pos hb] at hp
        have HQ := Lib.hid (show k + 1 + place (l.drop (k + 1)) n = K by omega)
        have hb' : Op.bytesLess s.toList n.toList = true := hb
        clear hp
        go_wp2
        all_goals
          go_round
          case rel => exact ⟨k + 1, by omega, by go_num, HQ⟩
          case measure => simp [intOf]; omega
      | false =>
        rw [if_neg (by rw [hb]; decide)] at hp
        have hb' : Op.bytesLess s.toList n.toList = false := hb
        obtain ⟨q, hq⟩ : ∃ q, decide (s = n) = q := ⟨_, rfl⟩
        have hq' : (s.toList == n.toList) = q := by rw [← hq, ByteArray.toList_eq, ByteArray.toList_eq]; exact beq_eq_decide' s n
        have e2 := HI.out (by omega)
        obtain rfl : K = k := by omega
        rw [hq] at e2
        subst e2
        clear hp HI hq hb
        go_wp2
        go_quiet (fail)
        go_wp2
        go_ret2
        exact ⟨rfl, _, rfl⟩
    · have hge : k = l.length := by omega
      have hp := HP.out
      have e2 : K = l.length := by rw [hge, List.drop_length] at hp; simpa [place] using hp.symm
      have e3 : R = false := by rw [← HRR.out]; unfold isAt; rw [HK.out, e2, List.getElem?_eq_none (Nat.le_refl _)]
      subst e2
      subst e3
      have hd : decide ((l.length : Int) < (l.length : Int)) = false := by simp
      subst hge
      clear hp
      go_wp2
      go_quiet (fail)
      go_wp2
      go_ret2
      exact ⟨rfl, _, rfl⟩

end Go.Proofs.YtaekieoingflaaaGreatDoor

namespace Go.Proofs.YtaekieoingflaaaGreatDoor
open Go.RowKit Go.Maps Go.Proofs.MapD Go.Proofs.Chest

theorem infoRoll : (Tryz.prog.info? 63).map (fun i => (i.zero, i.size, i.bytes)) = some (some (.agg #[.string ⟨#[]⟩, .string ⟨#[]⟩, .int .i64 0, .bool false]), 4, 48) := by kernel_rfl

/-- At a step of a region that draws: an append onto a slice of the call's own, of whatever many. -/
theorem step_app {P : Program} {ops : Array Oper} {K : Act → World → Prop} {Q : Exit → Act → World → Prop} {E : Prop} {o : Oper} {a : Act} {w : World} (hgd : o.guard = none) (sl y : Operand) (t : TypeId)
    (ho : o.op = .call { callee := .builtin .append, args := #[sl, y], argTypes := #[t, t] })
    (base : Nat) (e : TypeId) (i : TypeInfo) (z : Value) (size bytes : Nat) (ht : P.underlying t = some (.slice e)) (hi : P.info? e = some i) (hz : i.zero = some z)
    (hsize : i.size = size) (hby : i.bytes = bytes) (hzs : z.cells.size = size) (hsz : 0 < size)
    (v : Value) (n : Nat) (xs : List Value) (hs : a.eval sl = v) (hown : w.ownsRow base e size v n xs)
    (ad : Addr) (m c : Nat) (news : List Value) (hx : a.eval y = .slice (some ad) m c) (hl : news.length = m * size) (hnews : ∀ j u, news[j]? = some u → w.cell? (ad.add j) = some u) (h1 : ∀ u ∈ news, u.oneCell' = true)
    (h63 : n + m ≤ maxLen) (hbytes : (n + m) * bytes ≤ 140737488355328) (hbase : base ≤ w.heap.size) (N : Nat) (hN : n + m = N) (ys : List Value) (hys : xs ++ news = ys)
    (h : ∀ va vc w', w'.ownsRow base e size (.slice va N vc) N ys → w.grownBy w' v.ownBlock → ((Value.slice va N vc).ownBlock = v.ownBlock ∨ (Value.slice va N vc).ownBlock = some w.heap.size) → K (a.put o.dst (.slice va N vc)) w') :
    if Region.wanted o (yielded ops a.tmps) = true then Oper.wp P o a w K Q else E := by
  rw [if_pos (by simp [Region.wanted, hgd])]
  subst hN
  subst hys
  refine op_append_at sl y t ho base e i z size bytes ht hi hz hsize hby hzs hsz v n xs hs hown ad m c news hx hl hnews h1 h63 hbytes hbase fun v' w' h2 h3 h4 => ?_
  obtain ⟨va, vc, rfl⟩ := owns_shape4 h2
  exact h va vc w' h2 h3 h4

theorem rcells_one (l : Rolls) : ∀ u ∈ rcells l, u.oneCell' = true := by
  induction l with
  | nil => intro u h; cases h
  | cons e r ih =>
    intro u h
    simp only [rcells, List.mem_cons] at h
    rcases h with rfl | rfl | rfl | rfl | h
    · rfl
    · rfl
    · rfl
    · rfl
    · exact ih u h

theorem add_flat (g o j : Nat) : (⟨g, o, none⟩ : Addr).add j = ⟨g, o + j, none⟩ := by unfold Addr.add; split <;> simp_all

theorem rcells_take (l : Rolls) (k j : Nat) (u : Value) (h : (rcells (l.take k))[j]? = some u) : (rcells l)[j]? = some u := by
  conv => lhs; rw [← List.take_append_drop k l, rcells_append]
  rw [List.getElem?_append_left]
  · exact h
  · exact (List.getElem?_eq_some_iff.1 h).1

theorem rcells_drop (l : Rolls) (k : Nat) (hk : k ≤ l.length) (j : Nat) (u : Value) (h : (rcells (l.drop k))[j]? = some u) : (rcells l)[k * 4 + j]? = some u := by
  conv => lhs; rw [← List.take_append_drop k l, rcells_append]
  have e1 : (rcells (l.take k)).length = k * 4 := by rw [rcells_length, List.length_take, Nat.min_eq_left hk]
  rw [List.getElem?_append_right (by omega), e1, Nat.add_sub_cancel_left]
  exact h

/-- The whole row of a chest that has a roll. -/
theorem RC.whole {w : World} {B c z : Nat} {ad : Option Addr} {cap : Nat} {l : Rolls} (h : RC w B c z ad cap l) (hk : 0 < l.length) :
    ∃ g, ad = some ⟨g, 0, none⟩ ∧ l.length ≤ cap ∧ cap ≤ maxLen ∧ g ≠ c ∧ g < w.heap.size ∧ (∀ k ≤ l.length, ∀ j u, (rcells (l.take k))[j]? = some u → w.cell? ((⟨g, 0, none⟩ : Addr).add j) = some u) ∧
      (∀ k ≤ l.length, ∀ j u, (rcells (l.drop k))[j]? = some u → w.cell? ((⟨g, k * 4, none⟩ : Addr).add j) = some u) := by
  have hr := h.row
  have hap := h.apart
  have hlt := owns_old hr
  rcases hr.2 with ⟨h0, h1⟩ | ⟨g, cap', cur, hv, _, _, hn, hm, _⟩
  · omega
  · cases hv
    have hc := hr.cells (g := g) rfl
    refine ⟨g, rfl, hn, hm, hap g rfl, hlt g rfl, fun k hk j u hj => hc j u (rcells_take l k j u hj), fun k hk j u hj => ?_⟩
    have := hc _ u (rcells_drop l k hk j u hj)
    rw [add_flat] at this ⊢
    rw [← this]
    simp

/-- The chest, with another row: one that is new, or none. -/
def Made (B c z : Nat) (l' : Rolls) (w w' : World) : Prop := ∃ ad' cap', RC w' B c z ad' cap' l' ∧ Only [c] w w' ∧ ∀ g o, ad' = some ⟨g, o, none⟩ → w.heap.size ≤ g

set_option maxRecDepth 100000 in
set_option maxHeartbeats 8000000 in
theorem rout_c {w : World} {B c z : Nat} {ad : Option Addr} {cap : Nat} {l : Rolls} (h : RC w B c z ad cap l) {k : Nat} (hk : k < l.length) (hn : l.length ≤ 1000000) :
    Calls Tryz.prog 63 #[.pointer (some ⟨c, 0, none⟩), .int .i64 k] w fun e w' => e = .returned (.tuple #[]) ∧ Made B c z (l.take k ++ l.drop (k + 1)) w w' := by
  obtain ⟨i0, hi, hz0, hz1, hz2⟩ := info_parts infoRoll
  obtain ⟨g, rfl, hlc, hcm, hgc, hgw, hN1, hN2⟩ := h.whole (by omega)
  have H1 := hN1 k (by omega)
  have H2 := hN2 (k + 1) (by omega)
  have HR := Lib.hid h
  obtain ⟨c0, c1, f0, f1, _, _, hB⟩ := h
  have hcw : c < w.heap.size := World.block_lt_of_cell? w _ c0
  have hL1 : (rcells (l.take k)).length = k * 4 := by rw [rcells_length, List.length_take, Nat.min_eq_left (by omega)]
  have hL2 : (rcells (l.drop (k + 1))).length = (l.length - (k + 1)) * 4 := by rw [rcells_length, List.length_drop]
  have hO1 := rcells_one (l.take k)
  have hO2 := rcells_one (l.drop (k + 1))
  have hcap0 : ¬ cap = 0 := by omega
  have hkk : (k : Int) < (l.length : Int) := by omega
  generalize hX1 : rcells (l.take k) = X1 at *
  generalize hX2 : rcells (l.drop (k + 1)) = X2 at *
  have HXX : Hid (rcells (l.take k ++ l.drop (k + 1)) = X1 ++ X2) := Lib.hid (by rw [rcells_append, hX1, hX2])
  have hlen : (l.take k ++ l.drop (k + 1)).length = l.length - 1 := by simp only [List.length_append, List.length_take, List.length_drop]; omega
  clear hN1 hN2 hX1 hX2
  have hkc : k ≤ cap := by omega
  have hkk1 : (k : Int) ≤ (k : Int) + 1 := by omega
  have hK1 : ∀ (w1 : World), w.drew.grownBy w1 (Value.ownBlock (.slice none 0 0)) → w1.cell? ⟨c, 1, none⟩ = some (.slice (some ⟨g, 0, none⟩) l.length cap) ∧ w1.frozen? ⟨c, 1, none⟩ = false := fun w1 hg =>
    ⟨(hg.cell_far ⟨c, 1, none⟩ hcw (by intro e; cases e)).trans c1, (hg.frozen_far ⟨c, 1, none⟩ hcw (by intro e; cases e)).trans f1⟩
  have hK2 : ∀ (w1 w2 : World) (v : Value), w.drew.grownBy w1 (Value.ownBlock (.slice none 0 0)) → w1.grownBy w2 v.ownBlock → (v.ownBlock = (Value.slice none 0 0).ownBlock ∨ v.ownBlock = some w.drew.heap.size) →
      w2.cell? ⟨c, 1, none⟩ = some (.slice (some ⟨g, 0, none⟩) l.length cap) ∧ w2.frozen? ⟨c, 1, none⟩ = false := fun w1 w2 v hg hg2 hl => by
    have hne : some c ≠ v.ownBlock := by
      intro e
      rcases hl with h | h
      · rw [← e] at h; cases h
      · rw [← e] at h
        have h9 : c = w.heap.size := Option.some.inj h
        omega
    have hcw1 : c < w1.heap.size := Nat.lt_of_lt_of_le hcw hg.size
    exact ⟨(hg2.cell_far ⟨c, 1, none⟩ hcw1 hne).trans (hK1 _ hg).1, (hg2.frozen_far ⟨c, 1, none⟩ hcw1 hne).trans (hK1 _ hg).2⟩
  have hM2 : ∀ (w1 : World), w.drew.grownBy w1 (Value.ownBlock (.slice none 0 0)) → ∀ (o : Nat) (v : Value), w.cell? ⟨g, o, none⟩ = some v → w1.cell? ⟨g, o, none⟩ = some v := fun w1 hg o v hv =>
    (hg.cell_far ⟨g, o, none⟩ hgw (by intro e; cases e)).trans hv
  have hZ1 : ∀ (w1 : World), w.drew.grownBy w1 (Value.ownBlock (.slice none 0 0)) → w.heap.size ≤ w1.heap.size := fun w1 hg => hg.size
  have HF : Hid (∀ (w1 w2 : World) (va : Option Addr) (vc : Nat) (vb : Option Addr) (vd : Nat), w.drew.grownBy w1 (Value.ownBlock (.slice none 0 0)) → w1.grownBy w2 (Value.slice va k vc).ownBlock →
      ((Value.slice va k vc).ownBlock = (Value.slice none 0 0).ownBlock ∨ (Value.slice va k vc).ownBlock = some w.drew.heap.size) → w2.ownsRow w.heap.size 63 4 (.slice vb (l.length - 1) vd) (l.length - 1) (X1 ++ X2) →
      Made B c z (l.take k ++ l.drop (k + 1)) w (w2.setCell ⟨c, 1, none⟩ (.slice vb (l.length - 1) vd))) := Lib.hid (by
    intro w1 w2 va vc vb vd hg hg2 hl hrow
    have hblk : ∀ j, j < w.heap.size → w2.heap[j]? = w.heap[j]? := by
      intro j hj
      have h1 : w1.heap[j]? = w.heap[j]? := hg.block j hj (by intro e; cases e)
      rw [← h1]
      refine hg2.block j (Nat.lt_of_lt_of_le hj hg.size) ?_
      intro e
      rcases hl with h | h
      · rw [← e] at h; cases h
      · rw [← e] at h
        have h9 : j = w.heap.size := Option.some.inj h
        omega
    have e0 : w2.cell? ⟨c, 0, none⟩ = some (.int .i64 z) := by rw [cell_of_block (hblk c hcw)]; exact c0
    have e1 := (hK2 w1 w2 _ hg hg2 hl).1
    have z1 := (hK2 w1 w2 _ hg hg2 hl).2
    have z0 : w2.frozen? ⟨c, 0, none⟩ = false := by rw [frozen_of_block (hblk c hcw)]; exact f0
    have hap : ∀ g, (Value.slice vb (l.length - 1) vd).ownBlock = some g → w.heap.size ≤ g := by
      intro g' hg'
      rcases hrow.2 with ⟨h0, h1⟩ | ⟨g'', cap', cur, hv, hb, _⟩
      · rw [h0] at hg'; cases hg'
      · rw [hv] at hg'; cases hg'; exact hb
    refine ⟨vb, vd, ⟨?_, ?_, ?_, ?_, ?_, ?_, hB⟩, ?_, fun g' o' e' => hap g' (by rw [e']; rfl)⟩
    · go_simp
    · rw [hlen]; go_simp
    · go_simp
    · go_simp
    · rw [hlen, HXX.out]
      refine ownsRow_base_a (ownsRow_setCell_other hrow ?_ _) (by omega)
      intro e
      have := hap c e
      omega
    · rw [hlen]
      intro g' hg' e
      have := hap g' hg'
      omega
    · refine Only.setCell ?_ (.inl (by simp)) _
      exact ⟨hg2.os.trans hg.os, hg2.tape.trans hg.tape, hg2.output.trans hg.output, Nat.le_trans hg.size hg2.size, fun j hj _ => hblk j hj⟩)
  have HK1 := Lib.hid hK1
  have HK2 := Lib.hid hK2
  have HZ1 := Lib.hid hZ1
  have HH1 := Lib.hid H1
  have HO1 := Lib.hid hO1
  have HO2 := Lib.hid hO2
  clear hK1 hK2 hZ1 H1 hO1 hO2
  have hn63 : l.length ≤ 9223372036854775807 := by omega
  have hw1 : IntKind.i64.wrap ((k : Int) + 1) = (k : Int) + 1 := IntWalk.i64_in _ (by omega)
  have hw2 : ((k : Int) + 1).toNat = k + 1 := by omega
  have hw0 : (0 : Int) ≤ (k : Int) + 1 := by omega
  have hw3 : (k : Int) + 1 ≤ (l.length : Int) := by omega
  have hw4 : k + 1 ≤ l.length := by omega
  by_cases hck : cap = k + 1
  · have hX0 : X2 = [] := List.eq_nil_of_length_eq_zero (by rw [hL2]; omega)
    have H2 : ∀ j u, X2[j]? = some u → w.cell? ((⟨g, 0, none⟩ : Addr).add j) = some u := by rw [hX0]; intro j u hj; simp at hj
    clear hX0
    have hM1 : ∀ (w1 : World), w.drew.grownBy w1 (Value.ownBlock (.slice none 0 0)) → ∀ j u, X2[j]? = some u → w1.cell? ((⟨g, 0, none⟩ : Addr).add j) = some u := fun w1 hg j u hj => by have := H2 j u hj; rw [add_flat] at this ⊢; exact hM2 _ hg _ _ this
    have HM1 := Lib.hid hM1
    clear hM1 hM2 H2
    go_enter Tryz.func63, Tryz.ntmps63
    go_wp2
    go_region_law (first
      | (refine step_app rfl _ _ _ rfl w.heap.size 63 i0 _ 4 48 Tryz.underlying59 hi hz0 hz1 hz2 rfl (by decide) (.slice none 0 0) 0 [] rfl (World.ownsRow_nil _ _ _ _) ⟨g, 0, none⟩ k (k + 1) X1 (by rfl) hL1 (fun j u hj => HH1.out j u hj) HO1.out (by unfold maxLen; omega) (by omega) (by simp) k (by omega) X1 rfl ?_; intro va vc w1 hown1 hgrow1 hloc1; obtain ⟨hcc1, hff1⟩ := HK1.out _ hgrow1)
      | (refine step_app rfl _ _ _ rfl w.heap.size 63 i0 _ 4 48 Tryz.underlying59 hi hz0 hz1 hz2 rfl (by decide) (.slice va k vc) k X1 (by rfl) hown1 _ (l.length - (k + 1)) _ X2 (by rfl) hL2 (fun j u hj => HM1.out _ hgrow1 j u hj) HO2.out (by unfold maxLen; omega) (by omega) (HZ1.out _ hgrow1) (l.length - 1) (by omega) (X1 ++ X2) rfl ?_; intro vb vd w2 hown2 hgrow2 hloc2; obtain ⟨hcc2, hff2⟩ := HK2.out _ _ _ hgrow1 hgrow2 hloc1))
    all_goals
      go_wp2
      go_end0
      exact ⟨rfl, HF.out _ _ _ _ _ _ hgrow1 hgrow2 hloc1 hown2⟩
  · have hM1 : ∀ (w1 : World), w.drew.grownBy w1 (Value.ownBlock (.slice none 0 0)) → ∀ j u, X2[j]? = some u → w1.cell? ((⟨g, (k + 1) * 4, none⟩ : Addr).add j) = some u := fun w1 hg j u hj => by have := H2 j u hj; rw [add_flat] at this ⊢; exact hM2 _ hg _ _ this
    have HM1 := Lib.hid hM1
    clear hM1 hM2 H2
    go_enter Tryz.func63, Tryz.ntmps63
    go_wp2
    go_region_law (first
      | (refine step_app rfl _ _ _ rfl w.heap.size 63 i0 _ 4 48 Tryz.underlying59 hi hz0 hz1 hz2 rfl (by decide) (.slice none 0 0) 0 [] rfl (World.ownsRow_nil _ _ _ _) ⟨g, 0, none⟩ k cap X1 (by rfl) hL1 (fun j u hj => HH1.out j u hj) HO1.out (by unfold maxLen; omega) (by omega) (by simp) k (by omega) X1 rfl ?_; intro va vc w1 hown1 hgrow1 hloc1; obtain ⟨hcc1, hff1⟩ := HK1.out _ hgrow1)
      | (refine step_app rfl _ _ _ rfl w.heap.size 63 i0 _ 4 48 Tryz.underlying59 hi hz0 hz1 hz2 rfl (by decide) (.slice va k vc) k X1 (by rfl) hown1 _ (l.length - (k + 1)) _ X2 (by rfl) hL2 (fun j u hj => HM1.out _ hgrow1 j u hj) HO2.out (by unfold maxLen; omega) (by omega) (HZ1.out _ hgrow1) (l.length - 1) (by omega) (X1 ++ X2) rfl ?_; intro vb vd w2 hown2 hgrow2 hloc2; obtain ⟨hcc2, hff2⟩ := HK2.out _ _ _ hgrow1 hgrow2 hloc1))
    all_goals
      go_wp2
      go_end0
      exact ⟨rfl, HF.out _ _ _ _ _ _ hgrow1 hgrow2 hloc1 hown2⟩

end Go.Proofs.YtaekieoingflaaaGreatDoor

namespace Go.Proofs.YtaekieoingflaaaGreatDoor

section
variable {P : Program} {Q : Exit → Act → World → Prop}

def awaits (o : Oper) (i : Nat) : Bool := o.after.any fun e => Region.binds .any e && e.on == i

def opAwaits (ops : Array Oper) (j i : Nat) : Bool := match ops[j]? with | some p => awaits p i | none => false

def opFree (ops : Array Oper) (i : Nat) : Bool := match ops[i]? with | some p => p.guard.isNone && p.after.all (fun e : Edge => decide (e.on < i)) | none => false

/-- No operation is guarded; each waits for lower ones alone; each but the last is awaited by a higher one or by the last. -/
def lastOf (ops : Array Oper) (o : Oper) : Bool :=
  (o.guard.isNone && o.after.all (fun e : Edge => decide (e.on < ops.size))) && (List.range ops.size).all (fun i => opFree ops i) &&
    (List.range ops.size).all (fun i => awaits o i || (List.range ops.size).any fun j => decide (i < j) && opAwaits ops j i)

structure LastOf (ops : Array Oper) (o : Oper) : Prop where
  free : ∀ (i : Nat) (p : Oper), ops[i]? = some p → p.guard = none ∧ ∀ e ∈ p.after, e.on < i
  last : o.guard = none
  low : ∀ e ∈ o.after, e.on < ops.size
  up : ∀ i, i < ops.size → awaits o i = true ∨ ∃ j, i < j ∧ j < ops.size ∧ opAwaits ops j i = true

theorem lastOf_spec {ops : Array Oper} {o : Oper} (h : lastOf ops o = true) : LastOf ops o := by
  unfold lastOf at h
  rw [Bool.and_eq_true, Bool.and_eq_true, Bool.and_eq_true] at h
  obtain ⟨⟨⟨h1, h0⟩, h2⟩, h3⟩ := h
  refine ⟨fun i p hp => ?_, by simpa using h1, fun e he => by simpa using Array.all_eq_true_iff_forall_mem.1 h0 e he, fun i hi => ?_⟩
  · have hi : i < ops.size := (Array.getElem?_eq_some_iff.1 hp).1
    have := List.all_eq_true.1 h2 i (List.mem_range.2 hi)
    unfold opFree at this
    simp only [hp, Bool.and_eq_true] at this
    refine ⟨by simpa using this.1, fun e he => ?_⟩
    have := Array.all_eq_true_iff_forall_mem.1 this.2 e he
    simpa using this
  · have := List.all_eq_true.1 h3 i (List.mem_range.2 hi)
    rw [Bool.or_eq_true] at this
    rcases this with h | h
    · exact .inl h
    · obtain ⟨j, hj, hh⟩ := List.any_eq_true.1 h
      rw [Bool.and_eq_true] at hh
      exact .inr ⟨j, by simpa using hh.1, List.mem_range.1 hj, hh.2⟩

theorem awaits_spec {o : Oper} {i : Nat} (h : awaits o i = true) : ∃ e ∈ o.after, Region.binds .any e = true ∧ e.on = i := by
  unfold awaits at h
  rw [← Array.any_toList] at h
  obtain ⟨e, he, hh⟩ := List.any_eq_true.1 h
  rw [Array.mem_toList_iff] at he
  rw [Bool.and_eq_true] at hh
  exact ⟨e, he, hh.1, by simpa using hh.2⟩

/-- Whatever is listed, so is what it waits for. -/
def Down (ops : Array Oper) (listed : Array Bool) : Prop := ∀ (j : Nat) (p : Oper), ops[j]? = some p → listed.getD j false = true → ∀ e ∈ p.after, Region.binds .any e = true → listed.getD e.on false = true

theorem getD_push (l : Array Bool) (i : Nat) : (l.push false).getD i false = l.getD i false := by
  rw [Array.getD_eq_getD_getElem?, Array.getD_eq_getD_getElem?, Array.getElem?_push]
  split
  · rename_i h
    subst h
    rw [Array.getElem?_eq_none (Nat.le_refl _)]
    rfl
  · rfl

theorem getD_push_lt (l : Array Bool) {i : Nat} (h : i < l.size) : (l.push false).getD i true = l.getD i true := by
  rw [Array.getD_eq_getD_getElem?, Array.getD_eq_getD_getElem?, Array.getElem?_push, if_neg (by omega)]

theorem getD_tf (l : Array Bool) {i : Nat} (h : i < l.size) : l.getD i true = l.getD i false := by
  rw [Array.getD_eq_getD_getElem?, Array.getD_eq_getD_getElem?, Array.getElem?_eq_getElem h]
  rfl

theorem wpOp_push {ops : Array Oper} {o : Oper} {i : Nat} (hi : i < ops.size) (hg : ∀ p, ops[i]? = some p → p.guard = none) {N : Act → World → Prop} {K : Act → World → Prop} {a : Act} {w : World}
    (h : wpOp P ops (Exit.then N Q) i K a w) : wpOp P (ops.push o) Q i K a w := by
  unfold wpOp at *
  rw [Array.getElem?_push, if_neg (by omega)]
  rw [Array.getElem?_eq_getElem hi] at *
  have hg' : ops[i].guard = none := hg _ rfl
  have hw : ∀ f, Region.wanted ops[i] f = true := fun f => by unfold Region.wanted; rw [hg']
  simp only [hw, if_true] at *
  rcases h with h | ⟨h1, h2⟩
  · refine .inl ?_
    unfold Oper.wp at *
    generalize (execOp a.eval ops[i]).run P w = r at *
    cases r with
    | ok n w' =>
      cases n <;> simp only [Oper.upon] at h ⊢ <;> first | exact h | exact Calls.mono h (fun e w'' he => by cases e <;> exact he)
    | halt x w' => cases x <;> simp only [Oper.upon] at h ⊢ <;> exact h
  · exact .inr ⟨h1, h2⟩

theorem any_done {ops : Array Oper} {listed : Array Bool} {a : Act} {w : World} (hr : Region.ready .any ops listed = []) (h : Q .normal a w) : ∀ fuel, wpAny P .any ops Q fuel listed a w
  | 0 => ⟨hr, h⟩
  | _ + 1 => ⟨fun _ => h, by rw [hr]; simp⟩

theorem wpAny_mono {ops : Array Oper} {md : Region.Mode} {N N' : Act → World → Prop} (hq : ∀ a w, N a w → N' a w) : ∀ (fuel : Nat) (listed : Array Bool) (a : Act) (w : World), wpAny P md ops (Exit.then N Q) fuel listed a w → wpAny P md ops (Exit.then N' Q) fuel listed a w := by
  have one : ∀ (i : Nat) (K K' : Act → World → Prop) (a : Act) (w : World), (∀ a w, K a w → K' a w) → wpOp P ops (Exit.then N Q) i K a w → wpOp P ops (Exit.then N' Q) i K' a w := by
    intro i K K' a w hk h
    have h := wpOp_mono hk h
    unfold wpOp at *
    split
    · simpa [*] using h
    · rename_i o ho
      simp only [ho] at h
      split
      · rename_i hw
        simp only [hw, if_true] at h
        rcases h with h | ⟨h1, h2⟩
        · refine .inl ?_
          unfold Oper.wp at *
          generalize (execOp a.eval o).run P w = r at *
          cases r with
          | ok n w' =>
            cases n <;> simp only [Oper.upon] at h ⊢ <;> first | exact h | exact Calls.mono h (fun e w'' he => by cases e <;> exact he)
          | halt x w' => cases x <;> simp only [Oper.upon] at h ⊢ <;> exact h
        · exact .inr ⟨h1, h2⟩
      · rename_i hw
        simp only [hw] at h
        exact h
  intro fuel
  induction fuel with
  | zero => intro listed a w h; exact ⟨h.1, hq _ _ h.2⟩
  | succ fuel ih => intro listed a w h; exact ⟨fun h0 => hq _ _ (h.1 h0), fun i hi => one i _ _ a w (fun a w hk => ih _ a w hk) (h.2 i hi)⟩

theorem any_last {ops : Array Oper} {o : Oper} (hl : LastOf ops o) : ∀ (fuel : Nat) (listed : Array Bool) (a : Act) (w : World), listed.size = ops.size → Down ops listed →
    wpAny P .any ops (Exit.then (fun a w => wpOp P (ops.push o) Q ops.size (Q .normal) a w) Q) fuel listed a w → wpAny P .any (ops.push o) Q (fuel + 1) (listed.push false) a w := by
  -- none is ready: all are listed
  have all : ∀ listed : Array Bool, listed.size = ops.size → Region.ready .any ops listed = [] → ∀ i, i < ops.size → listed.getD i false = true := by
    intro listed hs hr i
    induction i using Nat.strongRecOn with
    | _ i ih =>
      intro hi
      cases hb : listed.getD i false with
      | true => rfl
      | false =>
        exfalso
        have : i ∈ Region.ready .any ops listed := by
          refine mem_ready.2 ⟨by rw [getD_tf _ (by omega)]; exact hb, ops[i], Array.getElem?_eq_getElem hi, fun e he _ => ?_⟩
          have := (hl.free i _ (Array.getElem?_eq_getElem hi)).2 e he
          exact ih e.on this (by omega)
        rw [hr] at this
        cases this
  -- the last may come: all are listed
  have top : ∀ listed : Array Bool, Down ops listed → (∀ e ∈ o.after, Region.binds .any e = true → listed.getD e.on false = true) → ∀ n i, ops.size - i ≤ n → i < ops.size → listed.getD i false = true := by
    intro listed hd ho n
    induction n with
    | zero => intro i h1 h2; omega
    | succ n ih =>
      intro i h1 h2
      rcases hl.up i h2 with h | ⟨j, h3, h4, h5⟩
      · obtain ⟨e, he, hb, rfl⟩ := awaits_spec h
        exact ho e he hb
      · unfold opAwaits at h5
        rw [Array.getElem?_eq_getElem h4] at h5
        obtain ⟨e, he, hb, rfl⟩ := awaits_spec h5
        exact hd j _ (Array.getElem?_eq_getElem h4) (ih j (by omega) h4) e he hb
  have full : ∀ listed : Array Bool, listed.size = ops.size → (∀ i, i < ops.size → listed.getD i false = true) → Region.ready .any ops listed = [] := by
    intro listed hs h
    refine List.eq_nil_iff_forall_not_mem.2 fun j hj => ?_
    obtain ⟨h1, p, hp, _⟩ := mem_ready.1 hj
    have hj : j < ops.size := (Array.getElem?_eq_some_iff.1 hp).1
    rw [getD_tf _ (by omega), h j hj] at h1
    cases h1
  have atEnd : ∀ (fuel : Nat) (listed : Array Bool) (a : Act) (w : World), listed.size = ops.size → (∀ i, i < ops.size → listed.getD i false = true) → wpOp P (ops.push o) Q ops.size (Q .normal) a w →
      wpOp P (ops.push o) Q ops.size (wpAny P .any (ops.push o) Q fuel ((listed.push false).setIfInBounds ops.size true)) a w := by
    intro fuel listed a w hs h hq
    refine wpOp_mono (fun a' w' hq' => any_done ?_ hq' fuel) hq
    refine List.eq_nil_iff_forall_not_mem.2 fun j hj => ?_
    obtain ⟨h1, p, hp, _⟩ := mem_ready.1 hj
    have hj : j < (ops.push o).size := (Array.getElem?_eq_some_iff.1 hp).1
    rw [Array.size_push] at hj
    by_cases hjs : j = ops.size
    · subst hjs
      rw [← hs, Array.getD_eq_getD_getElem?] at h1
      simp at h1
    · have h2 := h j (by omega)
      rw [Array.getD_eq_getD_getElem?, Array.getElem?_setIfInBounds_ne (fun e => hjs e.symm), ← Array.getD_eq_getD_getElem?, getD_push_lt _ (by omega), getD_tf _ (by omega), h2] at h1
      cases h1
  have ready : ∀ listed : Array Bool, listed.size = ops.size → (∀ i, i < ops.size → listed.getD i false = true) → ops.size ∈ Region.ready .any (ops.push o) (listed.push false) := by
    intro listed hs h
    refine mem_ready.2 ⟨?_, o, by simp, fun e he _ => ?_⟩
    · rw [← hs, Array.getD_eq_getD_getElem?]; simp
    · rw [getD_push]; exact h _ (hl.low e he)
  have below : ∀ (listed : Array Bool) (i : Nat), listed.size = ops.size → i ∈ Region.ready .any (ops.push o) (listed.push false) → i < ops.size → i ∈ Region.ready .any ops listed := by
    intro listed i hs hi hlt
    obtain ⟨h1, p, hp, h2⟩ := mem_ready.1 hi
    rw [Array.getElem?_push, if_neg (by omega)] at hp
    rw [getD_push_lt _ (by omega)] at h1
    exact mem_ready.2 ⟨h1, p, hp, fun e he hb => by rw [← getD_push]; exact h2 e he hb⟩
  have above : ∀ (listed : Array Bool) (i : Nat), listed.size = ops.size → Down ops listed → i ∈ Region.ready .any (ops.push o) (listed.push false) → ¬ i < ops.size → i = ops.size ∧ ∀ k, k < ops.size → listed.getD k false = true := by
    intro listed i hs hd hi hge
    obtain ⟨h1, p, hp, h2⟩ := mem_ready.1 hi
    have hi2 : i < (ops.push o).size := (Array.getElem?_eq_some_iff.1 hp).1
    rw [Array.size_push] at hi2
    obtain rfl : i = ops.size := by omega
    rw [Array.getElem?_push_size] at hp
    obtain rfl := Option.some.inj hp
    exact ⟨rfl, fun k hk => top listed hd (fun e he hb => by rw [← getD_push]; exact h2 e he hb) _ k (Nat.le_refl _) hk⟩
  intro fuel
  induction fuel with
  | zero =>
    intro listed a w hs hd h
    have hA := all listed hs h.1
    refine ⟨fun h0 => ?_, fun i hi => ?_⟩
    · have := ready listed hs hA
      rw [h0] at this
      cases this
    · by_cases hlt : i < ops.size
      · have := below listed i hs hi hlt
        rw [h.1] at this
        cases this
      · obtain ⟨rfl, hf⟩ := above listed i hs hd hi hlt
        exact atEnd _ _ _ _ hs hf h.2
  | succ fuel ih =>
    intro listed a w hs hd h
    refine ⟨fun h0 => ?_, fun i hi => ?_⟩
    · have hA : ∀ i, i < ops.size → listed.getD i false = true := by
        refine all listed hs (List.eq_nil_iff_forall_not_mem.2 fun j hj => ?_)
        obtain ⟨h1, p, hp, h2⟩ := mem_ready.1 hj
        have hjs : j < ops.size := (Array.getElem?_eq_some_iff.1 hp).1
        have : j ∈ Region.ready .any (ops.push o) (listed.push false) := mem_ready.2 ⟨by rw [getD_push_lt _ (by omega)]; exact h1, p, by rw [Array.getElem?_push, if_neg (by omega)]; exact hp, fun e he hb => by rw [getD_push]; exact h2 e he hb⟩
        rw [h0] at this
        cases this
      have := ready listed hs hA
      rw [h0] at this
      cases this
    · by_cases hlt : i < ops.size
      · have hb := below listed i hs hi hlt
        refine wpOp_push hlt (fun p hp => (hl.free i p hp).1) (wpOp_mono (fun a' w' hk => ?_) (h.2 i hb))
        have e1 : (listed.push false).setIfInBounds i true = (listed.setIfInBounds i true).push false := by
          apply Array.ext_getElem?
          intro k
          simp only [Array.getElem?_setIfInBounds, Array.getElem?_push, Array.size_push, Array.size_setIfInBounds]
          by_cases hik : i = k
          · subst hik
            rw [if_pos rfl, if_pos (by omega), if_neg (by omega), if_pos rfl, if_pos (by omega)]
          · rw [if_neg hik, if_neg hik]
        rw [e1]
        refine ih _ _ _ (by simp [hs]) (fun j p hp hj e he hbn => ?_) hk
        obtain ⟨_, q, hq, hdeps⟩ := mem_ready.1 hb
        have mono : ∀ k, listed.getD k false = true → (listed.setIfInBounds i true).getD k false = true := by
          intro k hk
          rw [Array.getD_eq_getD_getElem?, Array.getElem?_setIfInBounds]
          by_cases hik : i = k
          · subst hik; rw [if_pos rfl, if_pos (by omega)]; rfl
          · rw [if_neg hik, ← Array.getD_eq_getD_getElem?]; exact hk
        by_cases hij : i = j
        · subst hij
          rw [hq] at hp
          obtain rfl := Option.some.inj hp
          exact mono _ (hdeps e he hbn)
        · rw [Array.getD_eq_getD_getElem?, Array.getElem?_setIfInBounds, if_neg hij, ← Array.getD_eq_getD_getElem?] at hj
          exact mono _ (hd j p hp hj e he hbn)
      · obtain ⟨rfl, hf⟩ := above listed i hs hd hi hlt
        refine atEnd _ _ _ _ hs hf (h.1 (full listed hs hf))

/-- All but the last, held; then the last. -/
theorem wp_region_last {S : World → Prop} {id : Nat} {ops : Array Oper} {all : Array Oper} {o : Oper} {a : Act} {w : World} (hm : P.follows .mixedOrders = true) (he : all = ops.push o) (hl : lastOf ops o = true)
    (h : wpAnyH P .any ops (Exit.then (fun a w => if Region.wanted o (yielded all a.tmps) = true then Oper.wp P o a w (Q .normal) Q else Q .normal (a.put o.dst undef) w) Q) S ops.size (Array.replicate ops.size false) a w.drew) : (Code.region id all true).wp P Q a w := by
  subst he
  refine wp_region_any hm ?_
  have := any_last (P := P) (Q := Q) (lastOf_spec hl) ops.size (Array.replicate ops.size false) a w.drew (by simp) (fun j p hp hj => by
    have hj' : j < ops.size := (Array.getElem?_eq_some_iff.1 hp).1
    rw [Array.getD_eq_getD_getElem?] at hj
    simp [hj'] at hj) ?_
  · rw [Array.size_push, Array.replicate_succ]
    exact this
  · refine wpAny_mono (fun a w hq => ?_) _ _ _ _ (wpAny_of_held _ _ _ _ h)
    unfold wpOp
    rw [Array.getElem?_push_size]
    simp only
    split
    · rename_i hw
      simp only [hw, if_true] at hq
      exact .inl hq
    · rename_i hw
      simp only [hw] at hq
      exact hq

end
end Go.Proofs.YtaekieoingflaaaGreatDoor

namespace Go.Proofs.YtaekieoingflaaaGreatDoor
open Go.RowKit Go.Maps Go.Proofs.MapD Go.Proofs.Chest

theorem Only.to_below {a b : World} (h : Only [] a b) : Below a.heap.size a b := h.below (Nat.le_refl _) (by simp)

theorem RC.kept {w w' : World} {B c z : Nat} {ad : Option Addr} {cap : Nat} {l : Rolls} (h : RC w B c z ad cap l) (hb : Only [] w w') : RC w' B c z ad cap l := by
  have hcw : c < w.heap.size := World.block_lt_of_cell? w _ h.c0
  have e := hb.block c hcw (by simp)
  refine ⟨?_, ?_, ?_, ?_, owns_below h.row hb.to_below, h.apart, h.base⟩
  · rw [cell_of_block e]; exact h.c0
  · rw [cell_of_block e]; exact h.c1
  · rw [frozen_of_block e]; exact h.f0
  · rw [frozen_of_block e]; exact h.f1

/-- At a step: an append, told against a world V that nothing of has turned. -/
theorem step_appV {P : Program} {ops : Array Oper} {K : Act → World → Prop} {Q : Exit → Act → World → Prop} {E : Prop} {o : Oper} {a : Act} {w : World} (V : World) (hE : Only [] V w) (hgd : o.guard = none) (sl y : Operand) (t : TypeId)
    (ho : o.op = .call { callee := .builtin .append, args := #[sl, y], argTypes := #[t, t] })
    (e : TypeId) (i : TypeInfo) (z : Value) (size bytes : Nat) (ht : P.underlying t = some (.slice e)) (hi : P.info? e = some i) (hz : i.zero = some z)
    (hsize : i.size = size) (hby : i.bytes = bytes) (hzs : z.cells.size = size) (hsz : 0 < size)
    (v : Value) (n : Nat) (xs : List Value) (hs : a.eval sl = v) (hown : w.ownsRow V.heap.size e size v n xs)
    (ad : Addr) (m c : Nat) (news : List Value) (hx : a.eval y = .slice (some ad) m c) (hl : news.length = m * size) (hnews : ∀ j u, news[j]? = some u → w.cell? (ad.add j) = some u) (h1 : ∀ u ∈ news, u.oneCell' = true)
    (h63 : n + m ≤ maxLen) (hbytes : (n + m) * bytes ≤ 140737488355328) (N : Nat) (hN : n + m = N) (ys : List Value) (hys : xs ++ news = ys)
    (h : ∀ va vc w', w'.ownsRow V.heap.size e size (.slice va N vc) N ys → w.grownBy w' v.ownBlock → Only [] V w' → K (a.put o.dst (.slice va N vc)) w') :
    if Region.wanted o (yielded ops a.tmps) = true then Oper.wp P o a w K Q else E := by
  refine step_app hgd sl y t ho V.heap.size e i z size bytes ht hi hz hsize hby hzs hsz v n xs hs hown ad m c news hx hl hnews h1 h63 hbytes hE.size N hN ys hys fun va vc w' h2 h3 h4 => h va vc w' h2 h3 ?_
  refine hE.grown h3 ?_
  intro j hj
  right
  rcases hown.2 with ⟨h0, _⟩ | ⟨g, cap', cur, hv, hb, _⟩
  · rw [h0] at hj; cases hj
  · rw [hv] at hj; cases hj; exact hb

/-- The same, of an operation that is wanted. -/
theorem op_appV {P : Program} {K : Act → World → Prop} {Q : Exit → Act → World → Prop} {o : Oper} {a : Act} {w : World} (V : World) (hE : Only [] V w) (hgd : o.guard = none) (sl y : Operand) (t : TypeId)
    (ho : o.op = .call { callee := .builtin .append, args := #[sl, y], argTypes := #[t, t] })
    (e : TypeId) (i : TypeInfo) (z : Value) (size bytes : Nat) (ht : P.underlying t = some (.slice e)) (hi : P.info? e = some i) (hz : i.zero = some z)
    (hsize : i.size = size) (hby : i.bytes = bytes) (hzs : z.cells.size = size) (hsz : 0 < size)
    (v : Value) (n : Nat) (xs : List Value) (hs : a.eval sl = v) (hown : w.ownsRow V.heap.size e size v n xs)
    (ad : Addr) (m c : Nat) (news : List Value) (hx : a.eval y = .slice (some ad) m c) (hl : news.length = m * size) (hnews : ∀ j u, news[j]? = some u → w.cell? (ad.add j) = some u) (h1 : ∀ u ∈ news, u.oneCell' = true)
    (h63 : n + m ≤ maxLen) (hbytes : (n + m) * bytes ≤ 140737488355328) (N : Nat) (hN : n + m = N) (ys : List Value) (hys : xs ++ news = ys)
    (h : ∀ va vc w', w'.ownsRow V.heap.size e size (.slice va N vc) N ys → w.grownBy w' v.ownBlock → Only [] V w' → K (a.put o.dst (.slice va N vc)) w') :
    Oper.wp P o a w K Q := by
  have := step_appV (ops := #[]) (E := True) (Q := Q) V hE hgd sl y t ho e i z size bytes ht hi hz hsize hby hzs hsz v n xs hs hown ad m c news hx hl hnews h1 h63 hbytes N hN ys hys h
  rwa [if_pos (by unfold Region.wanted; rw [hgd])] at this

theorem RC.whole' {w : World} {B c z : Nat} {g cap : Nat} {o : Nat} {l : Rolls} (h : RC w B c z (some ⟨g, o, none⟩) cap l) :
    o = 0 ∧ l.length ≤ cap ∧ cap ≤ maxLen ∧ g ≠ c ∧ g < w.heap.size ∧ (∀ k ≤ l.length, ∀ j u, (rcells (l.take k))[j]? = some u → w.cell? ((⟨g, 0, none⟩ : Addr).add j) = some u) ∧
      (∀ k ≤ l.length, ∀ j u, (rcells (l.drop k))[j]? = some u → w.cell? ((⟨g, k * 4, none⟩ : Addr).add j) = some u) := by
  have hr := h.row
  have hap := h.apart
  have hlt := owns_old hr
  rcases hr.2 with ⟨h0, h1⟩ | ⟨g, cap', cur, hv, _, _, hn, hm, _⟩
  · cases h0
  · cases hv
    have hc := hr.cells (g := g) rfl
    refine ⟨rfl, hn, hm, hap g rfl, hlt g rfl, fun k hk j u hj => hc j u (rcells_take l k j u hj), fun k hk j u hj => ?_⟩
    have := hc _ u (rcells_drop l k hk j u hj)
    rw [add_flat] at this ⊢
    rw [← this]
    simp

/-- The block in which a roll is laid. -/
def oneCells (e : ByteArray × Rl) : Array Value := #[.string e.1, .string e.2.t, .int .i64 e.2.p, .bool e.2.s]

set_option maxRecDepth 100000 in
set_option maxHeartbeats 8000000 in
theorem rin_some {w : World} {B c z : Nat} {g cap : Nat} {l : Rolls} (h : RC w B c z (some ⟨g, 0, none⟩) cap l) (n t : ByteArray) (q : Nat) (sr : Bool) (hn : l.length ≤ 1000000) :
    Calls Tryz.prog 62 #[.pointer (some ⟨c, 0, none⟩), .agg #[.string n, .string t, .int .i64 q, .bool sr]] w fun e w' => e = .returned (.tuple #[]) ∧
      Made B c z (l.take (place l n) ++ (n, ⟨t, q, sr⟩) :: l.drop (place l n)) w w' := by
  obtain ⟨i0, hi, hz0, hz1, hz2⟩ := info_parts infoRoll
  have HAT : Hid (∀ w1, Only [] w w1 → Calls Tryz.prog 61 #[.pointer (some ⟨c, 0, none⟩), .string n] w1 fun e w' => e = .returned (.tuple #[.int .i64 (place l n), .bool (isAt l n)]) ∧ ∃ q, w' = w1.drewN q) :=
    Lib.hid (fun w1 h1 => rat_c (h.kept h1) n hn)
  have hp := place_le l n
  have hcw0 : c < w.heap.size := World.block_lt_of_cell? w _ h.c0
  have HR := Lib.hid h
  generalize hP : place l n = p at *
  generalize isAt l n = ia at *
  clear hP h
  go_enter Tryz.func62, Tryz.ntmps62
  go_wp2_with (go_at_call 61; refine (HAT.out _ ((Only.refl [] w).alloc _)).mono ?_; rintro _ _ ⟨rfl, q1, rfl⟩)
  obtain ⟨V, hV⟩ : ∃ V, (w.alloc (.cells #[.string n, .string t, .int .i64 q, .bool sr] 63)).drewN q1 = V := ⟨_, rfl⟩
  have hOV : Only [] w V := by rw [← hV]; exact ((Only.refl [] w).alloc _).trans (S' := []) ⟨rfl, rfl, rfl, Nat.le_refl _, fun _ _ _ => rfl⟩ (by simp)
  have hsz : V.heap.size = w.heap.size + 1 := by rw [← hV]; simp
  have hHV : V.heap[w.heap.size]? = some (.cells #[.string n, .string t, .int .i64 q, .bool sr] 63 (0, 0)) := by rw [← hV]; exact heap_alloc_new w _
  rw [hV]
  clear hV HAT hcw0
  have hRV := HR.out.kept hOV
  obtain ⟨_, hlc, hcm, hgc, hgw, hN1, hN2⟩ := hRV.whole'
  have H1 := hN1 p hp
  have H2 := hN2 p hp
  clear hN1 hN2
  obtain ⟨c0, c1, f0, f1, _, _, hB⟩ := hRV
  have hcV : c < V.heap.size := World.block_lt_of_cell? V _ c0
  have hHl : w.heap.size < V.heap.size := by omega
  generalize hHs : w.heap.size = H at *
  have hL1 : (rcells (l.take p)).length = p * 4 := by rw [rcells_length, List.length_take, Nat.min_eq_left hp]
  have hL2 : (rcells (l.drop p)).length = (l.length - p) * 4 := by rw [rcells_length, List.length_drop]
  have hO1 := rcells_one (l.take p)
  have hO2 := rcells_one (l.drop p)
  generalize hX1 : rcells (l.take p) = X1 at *
  generalize hX2 : rcells (l.drop p) = X2 at *
  have HXX : Hid (rcells (l.take p ++ (n, (⟨t, q, sr⟩ : Rl)) :: l.drop p) = X1 ++ [.string n, .string t, .int .i64 q, .bool sr] ++ X2) := Lib.hid (by rw [rcells_append, hX1, rcells, hX2]; simp)
  have hlen : (l.take p ++ (n, (⟨t, q, sr⟩ : Rl)) :: l.drop p).length = l.length + 1 := by simp only [List.length_append, List.length_take, List.length_drop, List.length_cons]; omega
  clear hX1 hX2
  have HCC : Hid (∀ W, Only [] V W → (W.cell? ⟨c, 1, none⟩ = some (.slice (some ⟨g, 0, none⟩) l.length cap) ∧ W.frozen? ⟨c, 1, none⟩ = false) ∧ (W.cell? ⟨H, 0, none⟩ = some (.string n) ∧ W.cell? ⟨H, 1, none⟩ = some (.string t) ∧ W.cell? ⟨H, 2, none⟩ = some (.int .i64 q) ∧ W.cell? ⟨H, 3, none⟩ = some (.bool sr)) ∧ c < W.heap.size ∧ H < W.heap.size) := Lib.hid (by
    intro W hW
    have eH : W.heap[H]? = _ := (hW.block H hHl (by simp)).trans hHV
    have eC := hW.block c hcV (by simp)
    refine ⟨⟨?_, ?_⟩, ⟨?_, ?_, ?_, ?_⟩, Nat.lt_of_lt_of_le hcV hW.size, Nat.lt_of_lt_of_le hHl hW.size⟩
    · rw [cell_of_block eC]; exact c1
    · rw [frozen_of_block eC]; exact f1
    · rw [cell_of_row W H 0 _ _ _ eH]; rfl
    · rw [cell_of_row W H 1 _ _ _ eH]; rfl
    · rw [cell_of_row W H 2 _ _ _ eH]; rfl
    · rw [cell_of_row W H 3 _ _ _ eH]; rfl)
  have HK : Hid (∀ W, Only [] V W → ∀ (o : Nat) (v : Value), V.cell? ⟨g, o, none⟩ = some v → W.cell? ⟨g, o, none⟩ = some v) := Lib.hid (fun W hW o v hv => by rw [cell_of_block (hW.block g hgw (by simp))]; exact hv)
  have HM1 : Hid (∀ W, Only [] V W → ∀ j u, X1[j]? = some u → W.cell? ((⟨g, 0, none⟩ : Addr).add j) = some u) := Lib.hid (fun W hW j u hj => by have := H1 j u hj; rw [add_flat] at this ⊢; exact HK.out W hW _ _ this)
  have HNA : Hid (∀ W : World, ∀ j u, ([.string n, .string t, .int .i64 q, .bool sr] : List Value)[j]? = some u → (W.alloc (.cells #[.string n, .string t, .int .i64 q, .bool sr] 63)).cell? ((⟨W.heap.size, 0, none⟩ : Addr).add j) = some u) := Lib.hid (fun W => World.news_of_block (cs := #[.string n, .string t, .int .i64 q, .bool sr]) (heap_alloc_new W _))
  have HNB : Hid (∀ W : World, (V.drew.alloc (.cells #[.string n, .string t, .int .i64 q, .bool sr] 63)).grownBy W (Value.ownBlock (.slice none 0 0)) → ∀ j u, ([.string n, .string t, .int .i64 q, .bool sr] : List Value)[j]? = some u → W.cell? ((⟨V.heap.size, 0, none⟩ : Addr).add j) = some u) := Lib.hid (fun W hg => World.news_of_block (cs := #[.string n, .string t, .int .i64 q, .bool sr]) (t := 63) (fr := (0, 0)) ((hg.block V.heap.size (by simp) (by intro e; cases e)).trans (heap_alloc_new V.drew _)))
  have HD : Hid (Only [] V V.drew) := Lib.hid (Only.refl [] V).drew
  have HO1 := Lib.hid hO1
  have HO2 := Lib.hid hO2
  have hoE : Hid (∀ u ∈ ([.string n, .string t, .int .i64 q, .bool sr] : List Value), u.oneCell' = true) := Lib.hid (by intro u hu; simp at hu; rcases hu with rfl | rfl | rfl | rfl <;> rfl)
  have HF : Hid (∀ (W : World) (vb : Option Addr) (vd : Nat), Only [] V W → W.ownsRow V.heap.size 63 4 (.slice vb (l.length + 1) vd) (l.length + 1) (X1 ++ [.string n, .string t, .int .i64 q, .bool sr] ++ X2) →
      Made B c z (l.take p ++ (n, (⟨t, q, sr⟩ : Rl)) :: l.drop p) w (W.setCell ⟨c, 1, none⟩ (.slice vb (l.length + 1) vd))) := Lib.hid (by
    intro W vb vd hW hrow
    have eC := hW.block c hcV (by simp)
    have e0 : W.cell? ⟨c, 0, none⟩ = some (.int .i64 z) := by rw [cell_of_block eC]; exact c0
    have e1 : W.cell? ⟨c, 1, none⟩ = _ := (cell_of_block eC 1).trans c1
    have z1 : W.frozen? ⟨c, 1, none⟩ = false := by rw [frozen_of_block eC]; exact f1
    have z0 : W.frozen? ⟨c, 0, none⟩ = false := by rw [frozen_of_block eC]; exact f0
    have hap : ∀ g, (Value.slice vb (l.length + 1) vd).ownBlock = some g → V.heap.size ≤ g := by
      intro g' hg'
      rcases hrow.2 with ⟨h0, h1⟩ | ⟨g'', cap', cur, hv, hb, _⟩
      · rw [h0] at hg'; cases hg'
      · rw [hv] at hg'; cases hg'; exact hb
    refine ⟨vb, vd, ⟨?_, ?_, ?_, ?_, ?_, ?_, hB⟩, ?_, fun g' o' e' => by rw [hHs]; exact Nat.le_trans (Nat.le_of_lt hHl) (hap g' (by rw [e']; rfl))⟩
    · go_simp
    · rw [hlen]; go_simp
    · go_simp
    · go_simp
    · rw [hlen, HXX.out]
      refine ownsRow_base_a (ownsRow_setCell_other hrow ?_ _) (by omega)
      intro e
      have := hap c e
      omega
    · rw [hlen]
      intro g' hg' e
      have := hap g' hg'
      omega
    · exact ((hOV.mono (by simp)).trans (hW.mono (S' := [c]) (by simp)) (by simp)).setCell (.inl (by simp)) _)
  clear H1 hO1 hO2 f0 c0 hB hsz
  have hn63 : l.length ≤ 9223372036854775807 := by omega
  have hpc : p ≤ cap := by omega
  have hp0 : (0 : Int) ≤ (p : Int) := by omega
  have hpl : (p : Int) ≤ (l.length : Int) := by omega
  have hpl' : (p : Int) ≤ (cap : Int) := by omega
  obtain ⟨⟨k1, k2⟩, ⟨k3, k4, k5, k6⟩, k7, k8⟩ := HCC.out V (Only.refl [] V)
  obtain ⟨A2, hA2⟩ : ∃ A2 : Addr, (if cap = p then some (⟨g, 0, none⟩ : Addr) else some ⟨g, p * 4, none⟩) = some A2 := by split <;> exact ⟨_, rfl⟩
  have HM2 : Hid (∀ W, Only [] V W → ∀ j u, X2[j]? = some u → W.cell? (A2.add j) = some u) := Lib.hid (fun W hW j u hj => by
    by_cases hck : cap = p
    · rw [List.eq_nil_of_length_eq_zero (by rw [hL2]; omega : X2.length = 0)] at hj; simp at hj
    · rw [if_neg hck] at hA2
      obtain rfl := Option.some.inj hA2
      have := H2 j u hj
      rw [add_flat] at this ⊢
      exact HK.out W hW _ _ this)
  clear H2
  have HSS : Hid (∀ W, Only [] V W → (fun W => W.cell? ⟨c, 1, none⟩ = some (.slice (some ⟨g, 0, none⟩) l.length cap) ∧ W.cell? ⟨H, 0, none⟩ = some (.string n) ∧ W.cell? ⟨H, 1, none⟩ = some (.string t) ∧ W.cell? ⟨H, 2, none⟩ = some (.int .i64 q) ∧ W.cell? ⟨H, 3, none⟩ = some (.bool sr)) W) := Lib.hid (fun W hW => ⟨(HCC.out W hW).1.1, (HCC.out W hW).2.1⟩)
  have hS0 := HSS.out _ HD.out
  refine wp_region_last (S := fun W => W.cell? ⟨c, 1, none⟩ = some (.slice (some ⟨g, 0, none⟩) l.length cap) ∧ W.cell? ⟨H, 0, none⟩ = some (.string n) ∧ W.cell? ⟨H, 1, none⟩ = some (.string t) ∧ W.cell? ⟨H, 2, none⟩ = some (.int .i64 q) ∧ W.cell? ⟨H, 3, none⟩ = some (.bool sr)) (by kernel_rfl) (ops := List.toArray [_, _, _, _, _, _, _, _, _, _, _, _, _, _, _, _, _, _, _, _]) (o := _) rfl (by kernel_rfl) ?_
  refine wpAnyH_take (i := 0) (v := Value.pointer (some ⟨c, 0, none⟩)) rfl (by kernel_rfl) (by kernel_rfl) (by kernel_rfl) (fun _ _ _ h => h) (Or.inl ⟨by rfl, ?_⟩) hS0 ?_
  · intro w' hSw; go_simp
  refine wpAnyH_take (i := 1) (v := Value.pointer (some ⟨c, 0, none⟩)) rfl (by kernel_rfl) (by kernel_rfl) (by kernel_rfl) (fun _ _ _ h => h) (Or.inl ⟨by rfl, ?_⟩) hS0 ?_
  · intro w' hSw; go_simp
  refine wpAnyH_take (i := 2) (v := Value.pointer (some ⟨c, 0, none⟩)) rfl (by kernel_rfl) (by kernel_rfl) (by kernel_rfl) (fun _ _ _ h => h) (Or.inl ⟨by rfl, ?_⟩) hS0 ?_
  · intro w' hSw; go_simp
  refine wpAnyH_take (i := 3) (v := Value.pointer (some ⟨c, 1, none⟩)) rfl (by kernel_rfl) (by kernel_rfl) (by kernel_rfl) (fun _ _ _ h => h) (Or.inl ⟨by rfl, ?_⟩) hS0 ?_
  · intro w' hSw; go_simp
  refine wpAnyH_take (i := 4) (v := Value.slice (some ⟨g, 0, none⟩) l.length cap) rfl (by kernel_rfl) (by kernel_rfl) (by kernel_rfl) (fun _ _ _ h => h) (Or.inl ⟨by rfl, ?_⟩) hS0 ?_
  · intro w' hSw; go_simp
  refine wpAnyH_take (i := 5) (v := Value.int .i64 p) rfl (by kernel_rfl) (by kernel_rfl) (by kernel_rfl) (fun _ _ _ h => h) (Or.inl ⟨by rfl, ?_⟩) hS0 ?_
  · intro w' hSw; go_simp
  refine wpAnyH_take (i := 6) (v := Value.slice (some ⟨g, 0, none⟩) p cap) rfl (by kernel_rfl) (by kernel_rfl) (by kernel_rfl) (fun _ _ _ h => h) (Or.inl ⟨by rfl, ?_⟩) hS0 ?_
  · intro w' hSw; go_simp
  refine wpAnyH_take (i := 8) (v := Value.agg #[.string n, .string t, .int .i64 q, .bool sr]) rfl (by kernel_rfl) (by kernel_rfl) (by kernel_rfl) (fun _ _ _ h => h) (Or.inl ⟨by rfl, ?_⟩) hS0 ?_
  · intro w' hSw; go_simp
  refine wpAnyH_take (i := 11) (v := Value.pointer (some ⟨c, 0, none⟩)) rfl (by kernel_rfl) (by kernel_rfl) (by kernel_rfl) (fun _ _ _ h => h) (Or.inl ⟨by rfl, ?_⟩) hS0 ?_
  · intro w' hSw; go_simp
  refine wpAnyH_take (i := 12) (v := Value.pointer (some ⟨c, 0, none⟩)) rfl (by kernel_rfl) (by kernel_rfl) (by kernel_rfl) (fun _ _ _ h => h) (Or.inl ⟨by rfl, ?_⟩) hS0 ?_
  · intro w' hSw; go_simp
  refine wpAnyH_take (i := 13) (v := Value.pointer (some ⟨c, 1, none⟩)) rfl (by kernel_rfl) (by kernel_rfl) (by kernel_rfl) (fun _ _ _ h => h) (Or.inl ⟨by rfl, ?_⟩) hS0 ?_
  · intro w' hSw; go_simp
  refine wpAnyH_take (i := 14) (v := Value.slice (some ⟨g, 0, none⟩) l.length cap) rfl (by kernel_rfl) (by kernel_rfl) (by kernel_rfl) (fun _ _ _ h => h) (Or.inl ⟨by rfl, ?_⟩) hS0 ?_
  · intro w' hSw; go_simp
  refine wpAnyH_take (i := 15) (v := Value.int .i64 p) rfl (by kernel_rfl) (by kernel_rfl) (by kernel_rfl) (fun _ _ _ h => h) (Or.inl ⟨by rfl, ?_⟩) hS0 ?_
  · intro w' hSw; go_simp
  refine wpAnyH_take (i := 16) (v := Value.slice (some A2) (l.length - p) (cap - p)) rfl (by kernel_rfl) (by kernel_rfl) (by kernel_rfl) (fun _ _ _ h => h) (Or.inl ⟨by rfl, ?_⟩) hS0 ?_
  · intro w' hSw; go_simp
  simp only [List.getElem_toArray, List.getElem_cons_succ, List.getElem_cons_zero, Act.put, List.setIfInBounds_toArray, List.set_cons_zero, List.set_cons_succ]
  refine wpAnyH_ready (rs := [7, 9]) (by kernel_rfl) (by simp) ?_
  refine AllReadyH.cons rfl (fun K hK => ?_) (AllReadyH.cons rfl (fun K hK => ?_) AllReadyH.nil)
  · simp only [List.getElem_toArray, List.getElem_cons_succ, List.getElem_cons_zero]
    rw [if_pos (by rfl)]
    refine op_appV V HD.out rfl (.const (.slice none 0 0)) (.tmp 19) _ rfl 63 i0 _ 4 48 Tryz.underlying59 hi hz0 hz1 hz2 rfl (by decide) (.slice none 0 0) 0 [] rfl (World.ownsRow_nil _ _ _ _) ⟨g, 0, none⟩ p cap X1 (by rfl) hL1 (HM1.out _ HD.out) HO1.out (by unfold maxLen; omega) (by omega) p (by omega) X1 rfl ?_
    intro va vc w1 hown1 hgrow1 hE1
    refine hK.out _ _ (HSS.out _ hE1) (fun _ => ?_)
    clear hK
    simp only [Act.put, List.setIfInBounds_toArray, List.set_cons_zero, List.set_cons_succ]
    refine wpAnyH_ready (rs := [9]) (by kernel_rfl) (by simp) ?_
    refine AllReadyH.cons rfl (fun K hK => ?_) AllReadyH.nil
    simp only [List.getElem_toArray, List.getElem_cons_succ, List.getElem_cons_zero]
    go_simp
    refine hK.out _ _ (HSS.out _ (hE1.alloc _)) (fun _ => ?_)
    clear hK
    refine wpAnyH_ready (rs := [10]) (by kernel_rfl) (by simp) ?_
    refine AllReadyH.cons rfl (fun K hK => ?_) AllReadyH.nil
    simp only [List.getElem_toArray, List.getElem_cons_succ, List.getElem_cons_zero]
    rw [if_pos (by rfl)]
    refine op_appV V (hE1.alloc _) rfl (.tmp 20) (.tmp 22) _ rfl 63 i0 _ 4 48 Tryz.underlying59 hi hz0 hz1 hz2 rfl (by decide) (.slice va p vc) p X1 (by rfl) (hown1.alloc _) ⟨w1.heap.size, 0, none⟩ 1 1 [.string n, .string t, .int .i64 q, .bool sr] (by rfl) rfl (HNA.out w1) hoE.out (by unfold maxLen; omega) (by omega) (p + 1) rfl (X1 ++ [.string n, .string t, .int .i64 q, .bool sr]) rfl ?_
    intro vb vd w2 hown2 hgrow2 hE2
    refine hK.out _ _ (HSS.out _ hE2) (fun _ => ?_)
    clear hK
    simp only [Act.put, List.setIfInBounds_toArray, List.set_cons_zero, List.set_cons_succ]
    refine wpAnyH_ready (rs := [17]) (by kernel_rfl) (by simp) ?_
    refine AllReadyH.cons rfl (fun K hK => ?_) AllReadyH.nil
    simp only [List.getElem_toArray, List.getElem_cons_succ, List.getElem_cons_zero]
    rw [if_pos (by rfl)]
    refine op_appV V hE2 rfl (.tmp 23) (.tmp 29) _ rfl 63 i0 _ 4 48 Tryz.underlying59 hi hz0 hz1 hz2 rfl (by decide) (.slice vb (p + 1) vd) (p + 1) (X1 ++ [.string n, .string t, .int .i64 q, .bool sr]) (by rfl) hown2 A2 (l.length - p) (cap - p) X2 (by rfl) hL2 (HM2.out _ hE2) HO2.out (by unfold maxLen; omega) (by omega) (l.length + 1) (by omega) (X1 ++ [.string n, .string t, .int .i64 q, .bool sr] ++ X2) rfl ?_
    intro vx vy w3 hown3 hgrow3 hE3
    refine hK.out _ _ (HSS.out _ hE3) (fun hS0 => ?_)
    clear hK
    simp only [Act.put, List.setIfInBounds_toArray, List.set_cons_zero, List.set_cons_succ]
    obtain ⟨⟨p1, p2⟩, _⟩ := HCC.out _ hE3
    refine wpAnyH_take (i := 18) (v := Value.pointer (some ⟨c, 0, none⟩)) rfl (by kernel_rfl) (by kernel_rfl) (by kernel_rfl) (fun _ _ _ h => h) (Or.inl ⟨by rfl, ?_⟩) hS0 ?_
    · intro w' hSw; go_simp
    refine wpAnyH_take (i := 19) (v := Value.pointer (some ⟨c, 1, none⟩)) rfl (by kernel_rfl) (by kernel_rfl) (by kernel_rfl) (fun _ _ _ h => h) (Or.inl ⟨by rfl, ?_⟩) hS0 ?_
    · intro w' hSw; go_simp
    simp only [List.getElem_toArray, List.getElem_cons_succ, List.getElem_cons_zero, Act.put, List.setIfInBounds_toArray, List.set_cons_zero, List.set_cons_succ]
    refine wpAnyH_done (by kernel_rfl) ?_ _
    dsimp only [Exit.then]
    rw [if_pos (by rfl)]
    go_simp
    go_wp2
    go_end0
    exact ⟨rfl, HF.out _ _ _ hE3 hown3⟩
  · simp only [List.getElem_toArray, List.getElem_cons_succ, List.getElem_cons_zero]
    go_simp
    refine hK.out _ _ (HSS.out _ (HD.out.alloc _)) (fun _ => ?_)
    clear hK
    refine wpAnyH_ready (rs := [7]) (by kernel_rfl) (by simp) ?_
    refine AllReadyH.cons rfl (fun K hK => ?_) AllReadyH.nil
    simp only [List.getElem_toArray, List.getElem_cons_succ, List.getElem_cons_zero]
    rw [if_pos (by rfl)]
    refine op_appV V (HD.out.alloc _) rfl (.const (.slice none 0 0)) (.tmp 19) _ rfl 63 i0 _ 4 48 Tryz.underlying59 hi hz0 hz1 hz2 rfl (by decide) (.slice none 0 0) 0 [] rfl (World.ownsRow_nil _ _ _ _) ⟨g, 0, none⟩ p cap X1 (by rfl) hL1 (HM1.out _ (HD.out.alloc _)) HO1.out (by unfold maxLen; omega) (by omega) p (by omega) X1 rfl ?_
    intro va vc w1 hown1 hgrow1 hE1
    refine hK.out _ _ (HSS.out _ hE1) (fun _ => ?_)
    clear hK
    simp only [Act.put, List.setIfInBounds_toArray, List.set_cons_zero, List.set_cons_succ]
    refine wpAnyH_ready (rs := [10]) (by kernel_rfl) (by simp) ?_
    refine AllReadyH.cons rfl (fun K hK => ?_) AllReadyH.nil
    simp only [List.getElem_toArray, List.getElem_cons_succ, List.getElem_cons_zero]
    rw [if_pos (by rfl)]
    refine op_appV V hE1 rfl (.tmp 20) (.tmp 22) _ rfl 63 i0 _ 4 48 Tryz.underlying59 hi hz0 hz1 hz2 rfl (by decide) (.slice va p vc) p X1 (by rfl) hown1 ⟨V.heap.size, 0, none⟩ 1 1 [.string n, .string t, .int .i64 q, .bool sr] (by rfl) rfl (HNB.out w1 hgrow1) hoE.out (by unfold maxLen; omega) (by omega) (p + 1) rfl (X1 ++ [.string n, .string t, .int .i64 q, .bool sr]) rfl ?_
    intro vb vd w2 hown2 hgrow2 hE2
    refine hK.out _ _ (HSS.out _ hE2) (fun _ => ?_)
    clear hK
    simp only [Act.put, List.setIfInBounds_toArray, List.set_cons_zero, List.set_cons_succ]
    refine wpAnyH_ready (rs := [17]) (by kernel_rfl) (by simp) ?_
    refine AllReadyH.cons rfl (fun K hK => ?_) AllReadyH.nil
    simp only [List.getElem_toArray, List.getElem_cons_succ, List.getElem_cons_zero]
    rw [if_pos (by rfl)]
    refine op_appV V hE2 rfl (.tmp 23) (.tmp 29) _ rfl 63 i0 _ 4 48 Tryz.underlying59 hi hz0 hz1 hz2 rfl (by decide) (.slice vb (p + 1) vd) (p + 1) (X1 ++ [.string n, .string t, .int .i64 q, .bool sr]) (by rfl) hown2 A2 (l.length - p) (cap - p) X2 (by rfl) hL2 (HM2.out _ hE2) HO2.out (by unfold maxLen; omega) (by omega) (l.length + 1) (by omega) (X1 ++ [.string n, .string t, .int .i64 q, .bool sr] ++ X2) rfl ?_
    intro vx vy w3 hown3 hgrow3 hE3
    refine hK.out _ _ (HSS.out _ hE3) (fun hS0 => ?_)
    clear hK
    simp only [Act.put, List.setIfInBounds_toArray, List.set_cons_zero, List.set_cons_succ]
    obtain ⟨⟨p1, p2⟩, _⟩ := HCC.out _ hE3
    refine wpAnyH_take (i := 18) (v := Value.pointer (some ⟨c, 0, none⟩)) rfl (by kernel_rfl) (by kernel_rfl) (by kernel_rfl) (fun _ _ _ h => h) (Or.inl ⟨by rfl, ?_⟩) hS0 ?_
    · intro w' hSw; go_simp
    refine wpAnyH_take (i := 19) (v := Value.pointer (some ⟨c, 1, none⟩)) rfl (by kernel_rfl) (by kernel_rfl) (by kernel_rfl) (fun _ _ _ h => h) (Or.inl ⟨by rfl, ?_⟩) hS0 ?_
    · intro w' hSw; go_simp
    simp only [List.getElem_toArray, List.getElem_cons_succ, List.getElem_cons_zero, Act.put, List.setIfInBounds_toArray, List.set_cons_zero, List.set_cons_succ]
    refine wpAnyH_done (by kernel_rfl) ?_ _
    dsimp only [Exit.then]
    rw [if_pos (by rfl)]
    go_simp
    go_wp2
    go_end0
    exact ⟨rfl, HF.out _ _ _ hE3 hown3⟩

end Go.Proofs.YtaekieoingflaaaGreatDoor

namespace Go.Proofs.YtaekieoingflaaaGreatDoor
open Go.RowKit Go.Maps Go.Proofs.MapD Go.Proofs.Chest

theorem RC.nil {w : World} {B c z cap : Nat} {l : Rolls} (h : RC w B c z none cap l) : l = [] ∧ cap = 0 := by
  have hr := h.row
  rcases hr.2 with ⟨h0, h1⟩ | ⟨g, cap', cur, hv, _⟩
  · cases l with
    | nil => cases h0; exact ⟨rfl, rfl⟩
    | cons e r => cases h1
  · cases hv

theorem run_append_none {P : Program} {w : World} (t ty e : TypeId) (i : TypeInfo) (ht : P.underlying t = some (.slice e)) (hi : P.info? e = some i) (b : Option Addr) (n c : Nat) (hle : n ≤ c) :
    (Builtin.append_ #[t, t] ty #[.slice b n c, .slice none 0 0]).run P w = .ok (.slice b n c) w := by
  cases b with
  | none => simp [Builtin.append_, run_underlying ht, sizeOf, typeInfo, hi, Builtin.lenOf, hle, run_firstCells_none]
  | some a => simp [Builtin.append_, run_underlying ht, sizeOf, typeInfo, hi, Builtin.lenOf, hle, run_firstCells_none, storeCells]

theorem owns_cap {w : World} {base : Nat} {e : TypeId} {size n : Nat} {b : Option Addr} {c : Nat} {xs : List Value} (h : w.ownsRow base e size (.slice b n c) n xs) : n ≤ c := by
  rcases h.2 with ⟨h0, h1⟩ | ⟨g, cap', cur, hv, _, _, hn, _⟩
  · omega
  · cases hv
    exact hn

set_option maxRecDepth 100000 in
set_option maxHeartbeats 8000000 in
theorem rin_none {w : World} {B c z : Nat} (h : RC w B c z none 0 []) (n t : ByteArray) (q : Nat) (sr : Bool) :
    Calls Tryz.prog 62 #[.pointer (some ⟨c, 0, none⟩), .agg #[.string n, .string t, .int .i64 q, .bool sr]] w fun e w' => e = .returned (.tuple #[]) ∧
      Made B c z [(n, ⟨t, q, sr⟩)] w w' := by
  obtain ⟨i0, hi, hz0, hz1, hz2⟩ := info_parts infoRoll
  have HAT : Hid (∀ w1, Only [] w w1 → Calls Tryz.prog 61 #[.pointer (some ⟨c, 0, none⟩), .string n] w1 fun e w' => e = .returned (.tuple #[.int .i64 0, .bool false]) ∧ ∃ q, w' = w1.drewN q) :=
    Lib.hid (fun w1 h1 => rat_c (h.kept h1) n (Nat.zero_le _))
  have HR := Lib.hid h
  clear h
  go_enter Tryz.func62, Tryz.ntmps62
  go_wp2_with (go_at_call 61; refine (HAT.out _ ((Only.refl [] w).alloc _)).mono ?_; rintro _ _ ⟨rfl, q1, rfl⟩)
  obtain ⟨V, hV⟩ : ∃ V, (w.alloc (.cells #[.string n, .string t, .int .i64 q, .bool sr] 63)).drewN q1 = V := ⟨_, rfl⟩
  have hOV : Only [] w V := by rw [← hV]; exact ((Only.refl [] w).alloc _).trans (S' := []) ⟨rfl, rfl, rfl, Nat.le_refl _, fun _ _ _ => rfl⟩ (by simp)
  have hsz : V.heap.size = w.heap.size + 1 := by rw [← hV]; simp
  have hHV : V.heap[w.heap.size]? = some (.cells #[.string n, .string t, .int .i64 q, .bool sr] 63 (0, 0)) := by rw [← hV]; exact heap_alloc_new w _
  rw [hV]
  clear hV HAT
  have hRV := HR.out.kept hOV
  obtain ⟨c0, c1, f0, f1, _, _, hB⟩ := hRV
  have hcV : c < V.heap.size := World.block_lt_of_cell? V _ c0
  have hHl : w.heap.size < V.heap.size := by omega
  generalize hHs : w.heap.size = H at *
  have HCC : Hid (∀ W, Only [] V W → (W.cell? ⟨c, 1, none⟩ = some (.slice none 0 0) ∧ W.frozen? ⟨c, 1, none⟩ = false) ∧ (W.cell? ⟨H, 0, none⟩ = some (.string n) ∧ W.cell? ⟨H, 1, none⟩ = some (.string t) ∧ W.cell? ⟨H, 2, none⟩ = some (.int .i64 q) ∧ W.cell? ⟨H, 3, none⟩ = some (.bool sr))) := Lib.hid (by
    intro W hW
    have eH : W.heap[H]? = _ := (hW.block H hHl (by simp)).trans hHV
    have eC := hW.block c hcV (by simp)
    refine ⟨⟨?_, ?_⟩, ⟨?_, ?_, ?_, ?_⟩⟩
    · rw [cell_of_block eC]; exact c1
    · rw [frozen_of_block eC]; exact f1
    · rw [cell_of_row W H 0 _ _ _ eH]; rfl
    · rw [cell_of_row W H 1 _ _ _ eH]; rfl
    · rw [cell_of_row W H 2 _ _ _ eH]; rfl
    · rw [cell_of_row W H 3 _ _ _ eH]; rfl)
  have HNA : Hid (∀ W : World, ∀ j u, ([.string n, .string t, .int .i64 q, .bool sr] : List Value)[j]? = some u → (W.alloc (.cells #[.string n, .string t, .int .i64 q, .bool sr] 63)).cell? ((⟨W.heap.size, 0, none⟩ : Addr).add j) = some u) := Lib.hid (fun W => World.news_of_block (cs := #[.string n, .string t, .int .i64 q, .bool sr]) (heap_alloc_new W _))
  have HD : Hid (Only [] V V.drew) := Lib.hid (Only.refl [] V).drew
  have hoE : Hid (∀ u ∈ ([.string n, .string t, .int .i64 q, .bool sr] : List Value), u.oneCell' = true) := Lib.hid (by intro u hu; simp at hu; rcases hu with rfl | rfl | rfl | rfl <;> rfl)
  have HF : Hid (∀ (W : World) (vb : Option Addr) (vd : Nat), Only [] V W → W.ownsRow V.heap.size 63 4 (.slice vb 1 vd) 1 [.string n, .string t, .int .i64 q, .bool sr] →
      Made B c z [(n, (⟨t, q, sr⟩ : Rl))] w (W.setCell ⟨c, 1, none⟩ (.slice vb 1 vd))) := Lib.hid (by
    intro W vb vd hW hrow
    have eC := hW.block c hcV (by simp)
    have e0 : W.cell? ⟨c, 0, none⟩ = some (.int .i64 z) := by rw [cell_of_block eC]; exact c0
    have e1 : W.cell? ⟨c, 1, none⟩ = _ := (cell_of_block eC 1).trans c1
    have z1 : W.frozen? ⟨c, 1, none⟩ = false := by rw [frozen_of_block eC]; exact f1
    have z0 : W.frozen? ⟨c, 0, none⟩ = false := by rw [frozen_of_block eC]; exact f0
    have hap : ∀ g, (Value.slice vb 1 vd).ownBlock = some g → V.heap.size ≤ g := by
      intro g' hg'
      rcases hrow.2 with ⟨h0, h1⟩ | ⟨g'', cap', cur, hv, hb, _⟩
      · rw [h0] at hg'; cases hg'
      · rw [hv] at hg'; cases hg'; exact hb
    refine ⟨vb, vd, ⟨?_, ?_, ?_, ?_, ?_, ?_, hB⟩, ?_, fun g' o' e' => by rw [hHs]; exact Nat.le_trans (Nat.le_of_lt hHl) (hap g' (by rw [e']; rfl))⟩
    · go_simp
    · go_simp
    · go_simp
    · go_simp
    · refine ownsRow_base_a (ownsRow_setCell_other hrow ?_ _) (by omega)
      intro e
      have := hap c e
      omega
    · intro g' hg' e
      have := hap g' hg'
      omega
    · exact ((hOV.mono (by simp)).trans (hW.mono (S' := [c]) (by simp)) (by simp)).setCell (.inl (by simp)) _)
  clear f0 c0 hB hsz
  obtain ⟨⟨k1, k2⟩, k3, k4, k5, k6⟩ := HCC.out V (Only.refl [] V)
  have HSS : Hid (∀ W, Only [] V W → (fun W => W.cell? ⟨c, 1, none⟩ = some (.slice none 0 0) ∧ W.cell? ⟨H, 0, none⟩ = some (.string n) ∧ W.cell? ⟨H, 1, none⟩ = some (.string t) ∧ W.cell? ⟨H, 2, none⟩ = some (.int .i64 q) ∧ W.cell? ⟨H, 3, none⟩ = some (.bool sr)) W) := Lib.hid (fun W hW => ⟨(HCC.out W hW).1.1, (HCC.out W hW).2⟩)
  have hS0 := HSS.out _ HD.out
  refine wp_region_last (S := fun W => W.cell? ⟨c, 1, none⟩ = some (.slice none 0 0) ∧ W.cell? ⟨H, 0, none⟩ = some (.string n) ∧ W.cell? ⟨H, 1, none⟩ = some (.string t) ∧ W.cell? ⟨H, 2, none⟩ = some (.int .i64 q) ∧ W.cell? ⟨H, 3, none⟩ = some (.bool sr)) (by kernel_rfl) (ops := List.toArray [_, _, _, _, _, _, _, _, _, _, _, _, _, _, _, _, _, _, _, _]) (o := _) rfl (by kernel_rfl) ?_
  refine wpAnyH_take (i := 0) (v := Value.pointer (some ⟨c, 0, none⟩)) rfl (by kernel_rfl) (by kernel_rfl) (by kernel_rfl) (fun _ _ _ h => h) (Or.inl ⟨by rfl, ?_⟩) hS0 ?_
  · intro w' hSw; go_simp
  refine wpAnyH_take (i := 1) (v := Value.pointer (some ⟨c, 0, none⟩)) rfl (by kernel_rfl) (by kernel_rfl) (by kernel_rfl) (fun _ _ _ h => h) (Or.inl ⟨by rfl, ?_⟩) hS0 ?_
  · intro w' hSw; go_simp
  refine wpAnyH_take (i := 2) (v := Value.pointer (some ⟨c, 0, none⟩)) rfl (by kernel_rfl) (by kernel_rfl) (by kernel_rfl) (fun _ _ _ h => h) (Or.inl ⟨by rfl, ?_⟩) hS0 ?_
  · intro w' hSw; go_simp
  refine wpAnyH_take (i := 3) (v := Value.pointer (some ⟨c, 1, none⟩)) rfl (by kernel_rfl) (by kernel_rfl) (by kernel_rfl) (fun _ _ _ h => h) (Or.inl ⟨by rfl, ?_⟩) hS0 ?_
  · intro w' hSw; go_simp
  refine wpAnyH_take (i := 4) (v := Value.slice none 0 0) rfl (by kernel_rfl) (by kernel_rfl) (by kernel_rfl) (fun _ _ _ h => h) (Or.inl ⟨by rfl, ?_⟩) hS0 ?_
  · intro w' hSw; go_simp
  refine wpAnyH_take (i := 5) (v := Value.int .i64 0) rfl (by kernel_rfl) (by kernel_rfl) (by kernel_rfl) (fun _ _ _ h => h) (Or.inl ⟨by rfl, ?_⟩) hS0 ?_
  · intro w' hSw; go_simp
  refine wpAnyH_take (i := 6) (v := Value.slice none 0 0) rfl (by kernel_rfl) (by kernel_rfl) (by kernel_rfl) (fun _ _ _ h => h) (Or.inl ⟨by rfl, ?_⟩) hS0 ?_
  · intro w' hSw; go_simp
  refine wpAnyH_take (i := 8) (v := Value.agg #[.string n, .string t, .int .i64 q, .bool sr]) rfl (by kernel_rfl) (by kernel_rfl) (by kernel_rfl) (fun _ _ _ h => h) (Or.inl ⟨by rfl, ?_⟩) hS0 ?_
  · intro w' hSw; go_simp
  refine wpAnyH_take (i := 11) (v := Value.pointer (some ⟨c, 0, none⟩)) rfl (by kernel_rfl) (by kernel_rfl) (by kernel_rfl) (fun _ _ _ h => h) (Or.inl ⟨by rfl, ?_⟩) hS0 ?_
  · intro w' hSw; go_simp
  refine wpAnyH_take (i := 12) (v := Value.pointer (some ⟨c, 0, none⟩)) rfl (by kernel_rfl) (by kernel_rfl) (by kernel_rfl) (fun _ _ _ h => h) (Or.inl ⟨by rfl, ?_⟩) hS0 ?_
  · intro w' hSw; go_simp
  refine wpAnyH_take (i := 13) (v := Value.pointer (some ⟨c, 1, none⟩)) rfl (by kernel_rfl) (by kernel_rfl) (by kernel_rfl) (fun _ _ _ h => h) (Or.inl ⟨by rfl, ?_⟩) hS0 ?_
  · intro w' hSw; go_simp
  refine wpAnyH_take (i := 14) (v := Value.slice none 0 0) rfl (by kernel_rfl) (by kernel_rfl) (by kernel_rfl) (fun _ _ _ h => h) (Or.inl ⟨by rfl, ?_⟩) hS0 ?_
  · intro w' hSw; go_simp
  refine wpAnyH_take (i := 15) (v := Value.int .i64 0) rfl (by kernel_rfl) (by kernel_rfl) (by kernel_rfl) (fun _ _ _ h => h) (Or.inl ⟨by rfl, ?_⟩) hS0 ?_
  · intro w' hSw; go_simp
  refine wpAnyH_take (i := 16) (v := Value.slice none 0 0) rfl (by kernel_rfl) (by kernel_rfl) (by kernel_rfl) (fun _ _ _ h => h) (Or.inl ⟨by rfl, ?_⟩) hS0 ?_
  · intro w' hSw; go_simp
  simp only [List.getElem_toArray, List.getElem_cons_succ, List.getElem_cons_zero, Act.put, List.setIfInBounds_toArray, List.set_cons_zero, List.set_cons_succ]
  refine wpAnyH_ready (rs := [7, 9]) (by kernel_rfl) (by simp) ?_
  refine AllReadyH.cons rfl (fun K hK => ?_) (AllReadyH.cons rfl (fun K hK => ?_) AllReadyH.nil)
  · simp only [List.getElem_toArray, List.getElem_cons_succ, List.getElem_cons_zero]
    go_simp
    refine hK.out _ _ (HSS.out _ HD.out) (fun _ => ?_)
    clear hK
    refine wpAnyH_ready (rs := [9]) (by kernel_rfl) (by simp) ?_
    refine AllReadyH.cons rfl (fun K hK => ?_) AllReadyH.nil
    simp only [List.getElem_toArray, List.getElem_cons_succ, List.getElem_cons_zero]
    go_simp
    refine hK.out _ _ (HSS.out _ (HD.out.alloc _)) (fun _ => ?_)
    clear hK
    refine wpAnyH_ready (rs := [10]) (by kernel_rfl) (by simp) ?_
    refine AllReadyH.cons rfl (fun K hK => ?_) AllReadyH.nil
    simp only [List.getElem_toArray, List.getElem_cons_succ, List.getElem_cons_zero]
    rw [if_pos (by rfl)]
    refine op_appV V (HD.out.alloc _) rfl (.tmp 20) (.tmp 22) _ rfl 63 i0 _ 4 48 Tryz.underlying59 hi hz0 hz1 hz2 rfl (by decide) (.slice none 0 0) 0 [] rfl (World.ownsRow_nil _ _ _ _) ⟨V.drew.heap.size, 0, none⟩ 1 1 [.string n, .string t, .int .i64 q, .bool sr] (by rfl) rfl (HNA.out V.drew) hoE.out (by unfold maxLen; omega) (by omega) 1 rfl [.string n, .string t, .int .i64 q, .bool sr] rfl ?_
    intro vb vd w2 hown2 hgrow2 hE2
    refine hK.out _ _ (HSS.out _ hE2) (fun _ => ?_)
    clear hK
    simp only [Act.put, List.setIfInBounds_toArray, List.set_cons_zero, List.set_cons_succ]
    refine wpAnyH_ready (rs := [17]) (by kernel_rfl) (by simp) ?_
    refine AllReadyH.cons rfl (fun K hK => ?_) AllReadyH.nil
    simp only [List.getElem_toArray, List.getElem_cons_succ, List.getElem_cons_zero]
    rw [if_pos (by rfl)]
    refine Lib.wp_append_run_sl _ (.tmp 23) (.tmp 29) _ rfl (.slice vb 1 vd) (.slice none 0 0) rfl rfl (run_append_none _ _ _ i0 Tryz.underlying59 hi _ _ _ (owns_cap hown2)) ?_
    simp only [Act.put, List.setIfInBounds_toArray, List.set_cons_zero, List.set_cons_succ]
    refine hK.out _ _ (HSS.out _ hE2) (fun hS0 => ?_)
    clear hK
    obtain ⟨⟨p1, p2⟩, _⟩ := HCC.out _ hE2
    refine wpAnyH_take (i := 18) (v := Value.pointer (some ⟨c, 0, none⟩)) rfl (by kernel_rfl) (by kernel_rfl) (by kernel_rfl) (fun _ _ _ h => h) (Or.inl ⟨by rfl, ?_⟩) hS0 ?_
    · intro w' hSw; go_simp
    refine wpAnyH_take (i := 19) (v := Value.pointer (some ⟨c, 1, none⟩)) rfl (by kernel_rfl) (by kernel_rfl) (by kernel_rfl) (fun _ _ _ h => h) (Or.inl ⟨by rfl, ?_⟩) hS0 ?_
    · intro w' hSw; go_simp
    simp only [List.getElem_toArray, List.getElem_cons_succ, List.getElem_cons_zero, Act.put, List.setIfInBounds_toArray, List.set_cons_zero, List.set_cons_succ]
    refine wpAnyH_done (by kernel_rfl) ?_ _
    dsimp only [Exit.then]
    rw [if_pos (by rfl)]
    go_simp
    go_wp2
    go_end0
    exact ⟨rfl, HF.out _ _ _ hE2 hown2⟩
  · simp only [List.getElem_toArray, List.getElem_cons_succ, List.getElem_cons_zero]
    go_simp
    refine hK.out _ _ (HSS.out _ (HD.out.alloc _)) (fun _ => ?_)
    clear hK
    refine wpAnyH_ready (rs := [7]) (by kernel_rfl) (by simp) ?_
    refine AllReadyH.cons rfl (fun K hK => ?_) AllReadyH.nil
    simp only [List.getElem_toArray, List.getElem_cons_succ, List.getElem_cons_zero]
    go_simp
    refine hK.out _ _ (HSS.out _ (HD.out.alloc _)) (fun _ => ?_)
    clear hK
    refine wpAnyH_ready (rs := [10]) (by kernel_rfl) (by simp) ?_
    refine AllReadyH.cons rfl (fun K hK => ?_) AllReadyH.nil
    simp only [List.getElem_toArray, List.getElem_cons_succ, List.getElem_cons_zero]
    rw [if_pos (by rfl)]
    refine op_appV V (HD.out.alloc _) rfl (.tmp 20) (.tmp 22) _ rfl 63 i0 _ 4 48 Tryz.underlying59 hi hz0 hz1 hz2 rfl (by decide) (.slice none 0 0) 0 [] rfl (World.ownsRow_nil _ _ _ _) ⟨V.drew.heap.size, 0, none⟩ 1 1 [.string n, .string t, .int .i64 q, .bool sr] (by rfl) rfl (HNA.out V.drew) hoE.out (by unfold maxLen; omega) (by omega) 1 rfl [.string n, .string t, .int .i64 q, .bool sr] rfl ?_
    intro vb vd w2 hown2 hgrow2 hE2
    refine hK.out _ _ (HSS.out _ hE2) (fun _ => ?_)
    clear hK
    simp only [Act.put, List.setIfInBounds_toArray, List.set_cons_zero, List.set_cons_succ]
    refine wpAnyH_ready (rs := [17]) (by kernel_rfl) (by simp) ?_
    refine AllReadyH.cons rfl (fun K hK => ?_) AllReadyH.nil
    simp only [List.getElem_toArray, List.getElem_cons_succ, List.getElem_cons_zero]
    rw [if_pos (by rfl)]
    refine Lib.wp_append_run_sl _ (.tmp 23) (.tmp 29) _ rfl (.slice vb 1 vd) (.slice none 0 0) rfl rfl (run_append_none _ _ _ i0 Tryz.underlying59 hi _ _ _ (owns_cap hown2)) ?_
    simp only [Act.put, List.setIfInBounds_toArray, List.set_cons_zero, List.set_cons_succ]
    refine hK.out _ _ (HSS.out _ hE2) (fun hS0 => ?_)
    clear hK
    obtain ⟨⟨p1, p2⟩, _⟩ := HCC.out _ hE2
    refine wpAnyH_take (i := 18) (v := Value.pointer (some ⟨c, 0, none⟩)) rfl (by kernel_rfl) (by kernel_rfl) (by kernel_rfl) (fun _ _ _ h => h) (Or.inl ⟨by rfl, ?_⟩) hS0 ?_
    · intro w' hSw; go_simp
    refine wpAnyH_take (i := 19) (v := Value.pointer (some ⟨c, 1, none⟩)) rfl (by kernel_rfl) (by kernel_rfl) (by kernel_rfl) (fun _ _ _ h => h) (Or.inl ⟨by rfl, ?_⟩) hS0 ?_
    · intro w' hSw; go_simp
    simp only [List.getElem_toArray, List.getElem_cons_succ, List.getElem_cons_zero, Act.put, List.setIfInBounds_toArray, List.set_cons_zero, List.set_cons_succ]
    refine wpAnyH_done (by kernel_rfl) ?_ _
    dsimp only [Exit.then]
    rw [if_pos (by rfl)]
    go_simp
    go_wp2
    go_end0
    exact ⟨rfl, HF.out _ _ _ hE2 hown2⟩

end Go.Proofs.YtaekieoingflaaaGreatDoor

namespace Go.Proofs.YtaekieoingflaaaGreatDoor
open Go.RowKit Go.Maps Go.Proofs.MapD Go.Proofs.Chest

set_option maxRecDepth 100000 in
set_option maxHeartbeats 4000000 in
theorem rname_c (t : ByteArray) (hs : t.size ≤ 1000000) (w : World) :
    Calls Tryz.prog 60 #[.string t] w fun e w' => e = .returned (.bool (okName t)) ∧ w = w' := by
  obtain ⟨R, hR⟩ : ∃ R, okName t = R := ⟨_, rfl⟩
  obtain ⟨A, hA⟩ : ∃ A, t.data.toList.all okB = A := ⟨_, rfl⟩
  have hRA : (decide (1 ≤ t.size) && decide (t.size ≤ 10) && A) = R := by rw [← hR, ← hA]; rfl
  have HA := Lib.hid hA
  have HRA := Lib.hid hRA
  rw [hR]
  clear hR hA hRA
  go_enter Tryz.func60, Tryz.ntmps60
  go_wp2
  go_loop [3] (fun i => ∃ k : Nat, k ≤ t.size ∧ i = .int .i64 k ∧ Hid ((t.data.toList.drop k).all okB = A)) (fun i => t.size - (intOf i).toNat)
  case atStart => exact ⟨0, by omega, rfl, HA⟩
  case round =>
    obtain ⟨k, hk, rfl, HP⟩ := hrel
    by_cases hlt : k < t.size
    · have hP := HP.out
      rw [list_get t k hlt, List.all_cons] at hP
      have hlt' : (k : Int) < (t.size : Int) := by omega
      by_cases hb : 65 ≤ t[k].toNat ∧ t[k].toNat ≤ 90
      · obtain ⟨b0, b1⟩ := hb
        rw [(okB_iff _).2 ⟨b0, b1⟩, Bool.true_and] at hP
        have HQ := Lib.hid hP
        clear hP
        go_wp2
        all_goals
          go_round
          case rel => exact ⟨k + 1, by omega, by go_num, HQ⟩
          case measure => simp [intOf]; omega
      · have hA : A = false := by
          rw [← hP]
          have : okB t[k] = false := by
            cases h : okB t[k] with
            | false => rfl
            | true => exact absurd ((okB_iff _).1 h) hb
          rw [this]; rfl
        have hR : R = false := by rw [← HRA.out, hA, Bool.and_false]
        subst hR
        clear hP
        by_cases b0 : 65 ≤ t[k].toNat
        · have b1 : 90 < t[k].toNat := by omega
          clear hb
          go_wp2
          go_ret
          exact ⟨rfl, rfl⟩
        · have b1 : t[k].toNat < 65 := by omega
          clear hb b0
          go_wp2
          go_ret
          exact ⟨rfl, rfl⟩
    · have hge : k = t.size := by omega
      have hP := HP.out
      rw [list_end t k (by omega)] at hP
      obtain rfl : A = true := hP.symm
      have hr := HRA.out
      rw [Bool.and_true] at hr
      clear hP HP HA
      subst hge
      by_cases h1 : 1 ≤ t.size
      · rw [decide_eq_true h1, Bool.true_and] at hr
        have h1' : (1 : Int) ≤ (t.size : Int) := by omega
        have hr' : decide ((t.size : Int) ≤ 10) = R := by rw [← hr]; exact decide_eq_decide.2 (by omega)
        clear hr
        go_wp2
        go_ret
        exact ⟨rfl, rfl⟩
      · rw [decide_eq_false h1, Bool.false_and] at hr
        subst hr
        have h1' : ¬ (1 : Int) ≤ (t.size : Int) := by omega
        go_wp2
        go_ret
        exact ⟨rfl, rfl⟩

set_option maxRecDepth 100000 in
set_option maxHeartbeats 4000000 in
theorem rnew_c (r : Int) (w : World) :
    Calls Tryz.prog 9 #[.int .i64 r] w fun e w' => e = .returned (.pointer (some ⟨w.heap.size, 0, none⟩)) ∧ RC w' w.heap.size w.heap.size (min (max r 0) 1048576).toNat none 0 [] ∧ Below w.heap.size w w' := by
  obtain ⟨z, hz⟩ : ∃ z : Nat, (min (max r 0) 1048576).toNat = z := ⟨_, rfl⟩
  have HZ := Lib.hid hz
  rw [hz]
  clear hz
  go_enter Tryz.func9, Tryz.ntmps9
  go_wp2
  go_ret
  have e1 : max (0 : Int) (min r 1048576) = (z : Int) := by have := HZ.out; omega
  rw [e1]
  refine ⟨rfl, ⟨?_, ?_, ?_, ?_, World.ownsRow_nil _ _ _ _, (fun g hg => by cases hg), Nat.le_refl _⟩, (Below.refl _ w).alloc (Nat.le_refl _) _⟩
  · go_simp
  · go_simp
  · go_simp
  · go_simp

end Go.Proofs.YtaekieoingflaaaGreatDoor

namespace Go.Proofs.YtaekieoingflaaaGreatDoor
open Go.RowKit Go.Maps Go.Proofs.MapD Go.Proofs.Chest

/-- A cell of what is owned is written. -/
theorem owns_setCell {w : World} {base : Nat} {e : TypeId} {size : Nat} {g n cap : Nat} {xs : List Value} (h : w.ownsRow base e size (.slice (some ⟨g, 0, none⟩) n cap) n xs) (j : Nat) (u : Value) :
    (w.setCell ⟨g, j, none⟩ u).ownsRow base e size (.slice (some ⟨g, 0, none⟩) n cap) n (xs.set j u) := by
  obtain ⟨h1, h2⟩ := h
  refine ⟨by rw [List.length_set]; exact h1, ?_⟩
  rcases h2 with ⟨h2, _⟩ | ⟨g', cap', cur, hv, hg, hh, hn, hm, hs, ht⟩
  · cases h2
  · cases hv
    refine .inr ⟨g, cap, cur.setIfInBounds j u, rfl, hg, ?_, hn, hm, by simpa using hs, ?_⟩
    · have hlt := lt_of_block hh
      have h' : w.heap[g] = .cells cur e (0, 0) := by simpa [Array.getElem?_eq_getElem hlt] using hh
      show (w.heap.modify g _)[g]? = _
      rw [Array.getElem?_eq_getElem (by simpa using hlt), Array.getElem_modify_self, h']
      rfl
    · rw [Array.toList_setIfInBounds, List.take_set, ht]

theorem rcells_set (l : Rolls) : ∀ (k : Nat) (hk : k < l.length) (x : Rl), rcells (l.set k (l[k].1, x)) = (((rcells l).set (k * 4 + 1) (.string x.t)).set (k * 4 + 2) (.int .i64 x.p)).set (k * 4 + 3) (.bool x.s) := by
  induction l with
  | nil => intro k hk; cases hk
  | cons e r ih =>
    intro k hk x
    cases k with
    | zero => rfl
    | succ k =>
      have := ih k (by simpa using hk) x
      rw [show (k + 1) * 4 = k * 4 + 4 by omega]
      simp only [List.set_cons_succ, List.getElem_cons_succ, rcells, this]

/-- A roll of it is turned. -/
theorem RC.turned {w : World} {B c z g cap : Nat} {l : Rolls} (h : RC w B c z (some ⟨g, 0, none⟩) cap l) {k : Nat} (hk : k < l.length) (x : Rl) :
    RC (((w.setCell ⟨g, k * 4 + 1, none⟩ (.string x.t)).setCell ⟨g, k * 4 + 2, none⟩ (.int .i64 x.p)).setCell ⟨g, k * 4 + 3, none⟩ (.bool x.s)) B c z (some ⟨g, 0, none⟩) cap (l.set k (l[k].1, x)) := by
  have hgc : g ≠ c := h.apart g rfl
  have e : ∀ (W : World) (j : Nat) (v : Value), (W.setCell ⟨g, j, none⟩ v).heap[c]? = W.heap[c]? := fun W j v => Below.heap_setCell _ _ _ _ (fun x => hgc x.symm)
  have e3 : (((w.setCell ⟨g, k * 4 + 1, none⟩ (.string x.t)).setCell ⟨g, k * 4 + 2, none⟩ (.int .i64 x.p)).setCell ⟨g, k * 4 + 3, none⟩ (.bool x.s)).heap[c]? = w.heap[c]? := (e _ _ _).trans ((e _ _ _).trans (e _ _ _))
  refine ⟨?_, ?_, ?_, ?_, ?_, ?_, h.base⟩
  · rw [cell_of_block e3]; exact h.c0
  · rw [cell_of_block e3, List.length_set]; exact h.c1
  · rw [frozen_of_block e3]; exact h.f0
  · rw [frozen_of_block e3]; exact h.f1
  · rw [List.length_set, rcells_set l k hk x]
    exact owns_setCell (owns_setCell (owns_setCell h.row _ _) _ _) _ _
  · rw [List.length_set]; exact h.apart

/-- A roll of it is turned, its bytes stay. -/
theorem RC.turned2 {w : World} {B c z g cap : Nat} {l : Rolls} (h : RC w B c z (some ⟨g, 0, none⟩) cap l) {k : Nat} (hk : k < l.length) (p : Nat) (s : Bool) :
    RC ((w.setCell ⟨g, k * 4 + 2, none⟩ (.int .i64 p)).setCell ⟨g, k * 4 + 3, none⟩ (.bool s)) B c z (some ⟨g, 0, none⟩) cap (l.set k (l[k].1, ⟨l[k].2.t, p, s⟩)) := by
  have hgc : g ≠ c := h.apart g rfl
  have e : ∀ (W : World) (j : Nat) (v : Value), (W.setCell ⟨g, j, none⟩ v).heap[c]? = W.heap[c]? := fun W j v => Below.heap_setCell _ _ _ _ (fun x => hgc x.symm)
  have e3 : ((w.setCell ⟨g, k * 4 + 2, none⟩ (.int .i64 p)).setCell ⟨g, k * 4 + 3, none⟩ (.bool s)).heap[c]? = w.heap[c]? := (e _ _ _).trans (e _ _ _)
  refine ⟨?_, ?_, ?_, ?_, ?_, ?_, h.base⟩
  · rw [cell_of_block e3]; exact h.c0
  · rw [cell_of_block e3, List.length_set]; exact h.c1
  · rw [frozen_of_block e3]; exact h.f0
  · rw [frozen_of_block e3]; exact h.f1
  · rw [List.length_set, rcells_set l k hk ⟨l[k].2.t, p, s⟩]
    obtain ⟨hl, he⟩ := List.getElem?_eq_some_iff.1 (rcells_at l k hk).2.1
    rw [show (rcells l).set (k * 4 + 1) (.string l[k].2.t) = rcells l by rw [← he]; exact List.set_getElem_self hl]
    exact owns_setCell (owns_setCell h.row _ _) _ _
  · rw [List.length_set]; exact h.apart

theorem RC.free {w : World} {B c z g cap : Nat} {l : Rolls} (h : RC w B c z (some ⟨g, 0, none⟩) cap l) {k : Nat} (hk : k < l.length) (j : Nat) (hj : j < 4) : w.frozen? ⟨g, k * 4 + j, none⟩ = false := by
  have hr := h.row
  rcases hr.2 with ⟨h0, _⟩ | ⟨g', cap', cur, hv, _, hh, hn, _, hs, _⟩
  · cases h0
  · cases hv
    unfold World.frozen?
    have : k * 4 + j < cur.size := by omega
    simp [hh]

theorem cell_other (W : World) {g j b o : Nat} (v : Value) (h : ¬ (g = b ∧ j = o)) : (W.setCell ⟨g, j, none⟩ v).cell? ⟨b, o, none⟩ = W.cell? ⟨b, o, none⟩ := by
  apply World.cell?_setCell_other
  intro e
  injection e with e1 e2
  exact h ⟨e1, e2⟩

theorem isAt_lt {l : Rolls} {n : ByteArray} (h : isAt l n = true) : place l n < l.length := by
  rcases Nat.lt_or_ge (place l n) l.length with h1 | h1
  · exact h1
  · unfold isAt at h
    rw [List.getElem?_eq_none h1] at h
    cases h

set_option maxRecDepth 100000 in
set_option maxHeartbeats 4000000 in
theorem rpress_none {w : World} {B c z : Nat} {ad : Option Addr} {cap : Nat} {l : Rolls} (h : RC w B c z ad cap l) (n : ByteArray) (hn : l.length ≤ 1000000) (hat : isAt l n = false) :
    Calls Tryz.prog 30 #[.pointer (some ⟨c, 0, none⟩), .string n] w fun e w' => e = .returned (.int .i64 6) ∧ Only [] w w' := by
  have HAT := Lib.hid (rat_c h n hn)
  rw [hat] at HAT
  generalize place l n = p at *
  clear hat h
  go_enter Tryz.func30, Tryz.ntmps30
  go_wp2_with (go_at_call 61; refine HAT.out.mono ?_; rintro _ _ ⟨rfl, q1, rfl⟩)
  go_ret
  exact ⟨rfl, ⟨rfl, rfl, rfl, Nat.le_refl _, fun _ _ _ => rfl⟩⟩

set_option maxRecDepth 100000 in
set_option maxHeartbeats 4000000 in
theorem rpress_at {w : World} {B c z g cap : Nat} {l : Rolls} (h : RC w B c z (some ⟨g, 0, none⟩) cap l) (n : ByteArray) (hn : l.length ≤ 1000000) {p : Nat} (hk : p < l.length) (hp : place l n = p) {t : ByteArray} (ht : l[p].2.t = t) (hat : isAt l n = true) :
    Calls Tryz.prog 30 #[.pointer (some ⟨c, 0, none⟩), .string n] w fun e w' => e = .returned (.int .i64 0) ∧
      RC w' B c z (some ⟨g, 0, none⟩) cap (l.set p (l[p].1, ⟨t, t.size, true⟩)) ∧ Only [g] w w' := by
  have HAT := Lib.hid (rat_c h n hn)
  rw [hat, hp] at HAT
  have HR := Lib.hid h
  clear hat h hp
  go_enter Tryz.func30, Tryz.ntmps30
  go_wp2_with (go_at_call 61; refine HAT.out.mono ?_; rintro _ _ ⟨rfl, q1, rfl⟩)
  obtain ⟨V, hV⟩ : ∃ V, w.drewN q1 = V := ⟨_, rfl⟩
  have hOV : Only [] w V := by rw [← hV]; exact ⟨rfl, rfl, rfl, Nat.le_refl _, fun _ _ _ => rfl⟩
  rw [hV]
  have hR1 : RC V B c z (some ⟨g, 0, none⟩) cap l := ⟨by rw [← hV]; exact HR.out.c0, by rw [← hV]; exact HR.out.c1, by rw [← hV]; exact HR.out.f0, by rw [← hV]; exact HR.out.f1, by rw [← hV]; exact HR.out.row, HR.out.apart, HR.out.base⟩
  have HF : Hid (∀ W : World, W = (V.drew.setCell ⟨g, p * 4 + 2, none⟩ (.int .i64 (t.size : Nat))).setCell ⟨g, p * 4 + 3, none⟩ (.bool true) → RC W B c z (some ⟨g, 0, none⟩) cap (l.set p (l[p].1, ⟨t, t.size, true⟩)) ∧ Only [g] w W) := Lib.hid (by
    rintro W rfl
    have h1 := RC.turned2 (w := V.drew) ⟨hR1.c0, hR1.c1, hR1.f0, hR1.f1, hR1.row, hR1.apart, hR1.base⟩ hk t.size true
    rw [ht] at h1
    refine ⟨h1, ?_⟩
    exact (((hOV.mono (S' := [g]) (by simp)).drew).setCell (.inl (by simp)) _).setCell (.inl (by simp)) _)
  clear hV HAT
  obtain ⟨g', hg', hlc, hcm, g0, g1, g2, g3⟩ := hR1.at hk
  cases hg'
  have z2 := hR1.free hk 2 (by omega)
  have z3 := hR1.free hk 3 (by omega)
  obtain ⟨c0, c1, _, _, _, hap, _⟩ := hR1
  have hgc : ¬ g = c := hap g rfl
  have hgc' : ¬ c = g := fun e => hgc e.symm
  rw [ht] at g1
  clear ht
  have hpl : (p : Int) < (l.length : Int) := by omega
  have HS : Hid (∀ W : World, W.cell? ⟨c, 1, none⟩ = some (.slice (some ⟨g, 0, none⟩) l.length cap) ∧ W.cell? ⟨g, p * 4 + 1, none⟩ = some (.string t) → ∀ (j : Nat) (v : Value), j = p * 4 + 2 ∨ j = p * 4 + 3 →
      (W.setCell ⟨g, j, none⟩ v).cell? ⟨c, 1, none⟩ = some (.slice (some ⟨g, 0, none⟩) l.length cap) ∧ (W.setCell ⟨g, j, none⟩ v).cell? ⟨g, p * 4 + 1, none⟩ = some (.string t)) := Lib.hid (by
    intro W ⟨a1, a2⟩ j v hj
    refine ⟨?_, ?_⟩
    · rw [cell_other W v (fun e => hgc e.1)]; exact a1
    · rw [cell_other W v (fun e => by omega)]; exact a2)
  have HS1 : Hid ((V.setCell ⟨g, p * 4 + 2, none⟩ (.int .i64 (t.size : Nat))).drew.cell? ⟨c, 1, none⟩ = some (.slice (some ⟨g, 0, none⟩) l.length cap) ∧ (V.setCell ⟨g, p * 4 + 2, none⟩ (.int .i64 (t.size : Nat))).drew.cell? ⟨g, p * 4 + 1, none⟩ = some (.string t)) := Lib.hid (HS.out V ⟨c1, g1⟩ _ _ (.inl rfl))
  have HS2 : Hid (((V.setCell ⟨g, p * 4 + 2, none⟩ (.int .i64 (t.size : Nat))).setCell ⟨g, p * 4 + 3, none⟩ (.bool true)).drew.cell? ⟨c, 1, none⟩ = some (.slice (some ⟨g, 0, none⟩) l.length cap) ∧ ((V.setCell ⟨g, p * 4 + 2, none⟩ (.int .i64 (t.size : Nat))).setCell ⟨g, p * 4 + 3, none⟩ (.bool true)).drew.cell? ⟨g, p * 4 + 1, none⟩ = some (.string t)) := Lib.hid (HS.out _ HS1.out _ _ (.inr rfl))
  clear c0 g0
  go_region_held3 (fun w' => w'.cell? ⟨c, 1, none⟩ = some (.slice (some ⟨g, 0, none⟩) l.length cap) ∧ w'.cell? ⟨g, p * 4 + 1, none⟩ = some (.string t)) (first | exact HS1.out | exact HS2.out | go_keep) (fail)
  go_wp2
  go_ret
  exact ⟨rfl, HF.out _ rfl⟩

end Go.Proofs.YtaekieoingflaaaGreatDoor

namespace Go.Proofs.YtaekieoingflaaaGreatDoor
open Go.RowKit Go.Maps Go.Proofs.MapD Go.Proofs.Chest

set_option maxRecDepth 100000 in
set_option maxHeartbeats 4000000 in
theorem rcut_none {w : World} {B c z : Nat} {ad : Option Addr} {cap : Nat} {l : Rolls} (h : RC w B c z ad cap l) (n : ByteArray) (m : Int) (hn : l.length ≤ 1000000) (hat : isAt l n = false) :
    Calls Tryz.prog 31 #[.pointer (some ⟨c, 0, none⟩), .string n, .int .i64 m] w fun e w' => e = .returned (.int .i64 6) ∧ Only [] w w' := by
  have HAT := Lib.hid (rat_c h n hn)
  rw [hat] at HAT
  generalize place l n = p at *
  clear hat h
  go_enter Tryz.func31, Tryz.ntmps31
  go_wp2_with (go_at_call 61; refine HAT.out.mono ?_; rintro _ _ ⟨rfl, q1, rfl⟩)
  go_ret
  exact ⟨rfl, ⟨rfl, rfl, rfl, Nat.le_refl _, fun _ _ _ => rfl⟩⟩

set_option maxRecDepth 100000 in
set_option maxHeartbeats 4000000 in
theorem rcut_range {w : World} {B c z g cap : Nat} {l : Rolls} (h : RC w B c z (some ⟨g, 0, none⟩) cap l) (n : ByteArray) (hn : l.length ≤ 1000000) {p : Nat} (hk : p < l.length) (hp : place l n = p) {t : ByteArray} (ht : l[p].2.t = t) (hat : isAt l n = true) (m : Int) (hm : m < 0 ∨ (t.size : Int) < m) :
    Calls Tryz.prog 31 #[.pointer (some ⟨c, 0, none⟩), .string n, .int .i64 m] w fun e w' => e = .returned (.int .i64 4) ∧ Only [] w w' := by
  have HAT := Lib.hid (rat_c h n hn)
  rw [hat, hp] at HAT
  obtain ⟨g', hg', hlc, hcm, g0, g1, g2, g3⟩ := h.at hk
  cases hg'
  rw [ht] at g1
  obtain ⟨c0, c1, _, _, _, hap, _⟩ := h
  have hpl : (p : Int) < (l.length : Int) := by omega
  clear c0 g0 g2 g3 hat hp ht hap
  by_cases hm0 : m < 0
  · clear hm
    go_enter Tryz.func31, Tryz.ntmps31
    go_wp2_with (go_at_call 61; refine HAT.out.mono ?_; rintro _ _ ⟨rfl, q1, rfl⟩)
    go_ret
    exact ⟨rfl, ⟨rfl, rfl, rfl, Nat.le_refl _, fun _ _ _ => rfl⟩⟩
  · have hm1 : (t.size : Int) < m := by omega
    clear hm
    go_enter Tryz.func31, Tryz.ntmps31
    go_wp2_with (go_at_call 61; refine HAT.out.mono ?_; rintro _ _ ⟨rfl, q1, rfl⟩)
    go_ret
    exact ⟨rfl, ⟨rfl, rfl, rfl, Nat.le_refl _, fun _ _ _ => rfl⟩⟩

set_option maxRecDepth 100000 in
set_option maxHeartbeats 4000000 in
theorem rcut_at {w : World} {B c z g cap : Nat} {l : Rolls} (h : RC w B c z (some ⟨g, 0, none⟩) cap l) (n : ByteArray) (hn : l.length ≤ 1000000) {p : Nat} (hk : p < l.length) (hp : place l n = p) {t : ByteArray} {i : Nat} (ht : l[p].2.t = t) (hi : l[p].2.p = i) (hat : isAt l n = true) {m : Nat} (hm : m ≤ t.size) :
    Calls Tryz.prog 31 #[.pointer (some ⟨c, 0, none⟩), .string n, .int .i64 m] w fun e w' => e = .returned (.int .i64 0) ∧
      RC w' B c z (some ⟨g, 0, none⟩) cap (l.set p (l[p].1, ⟨t.extract 0 m, min i m, true⟩)) ∧ Only [g] w w' := by
  have HAT := Lib.hid (rat_c h n hn)
  rw [hat, hp] at HAT
  have HR := Lib.hid h
  obtain ⟨g', hg', hlc, hcm, g0, g1, g2, g3⟩ := h.at hk
  cases hg'
  rw [ht] at g1
  rw [hi] at g2
  have z1 := h.free hk 1 (by omega)
  have z2 := h.free hk 2 (by omega)
  have z3 := h.free hk 3 (by omega)
  have HF : Hid (∀ V : World, Only [] w V → RC V B c z (some ⟨g, 0, none⟩) cap l → RC (((V.setCell ⟨g, p * 4 + 1, none⟩ (.string (t.extract 0 m))).setCell ⟨g, p * 4 + 2, none⟩ (.int .i64 (min i m : Nat))).setCell ⟨g, p * 4 + 3, none⟩ (.bool true)) B c z (some ⟨g, 0, none⟩) cap (l.set p (l[p].1, ⟨t.extract 0 m, min i m, true⟩)) ∧
      Only [g] w (((V.setCell ⟨g, p * 4 + 1, none⟩ (.string (t.extract 0 m))).setCell ⟨g, p * 4 + 2, none⟩ (.int .i64 (min i m : Nat))).setCell ⟨g, p * 4 + 3, none⟩ (.bool true))) := Lib.hid (by
    intro V hV hR
    exact ⟨hR.turned hk ⟨t.extract 0 m, min i m, true⟩, (((hV.mono (S' := [g]) (by simp)).setCell (.inl (by simp)) _).setCell (.inl (by simp)) _).setCell (.inl (by simp)) _⟩)
  obtain ⟨c0, c1, _, _, _, hap, _⟩ := h
  have hgc : ¬ g = c := hap g rfl
  have hgc' : ¬ c = g := fun e => hgc e.symm
  have hpl : (p : Int) < (l.length : Int) := by omega
  have hm' : (m : Int) ≤ (t.size : Int) := by omega
  have hm0 : (0 : Int) ≤ (m : Int) := by omega
  have hmn : min (i : Int) (m : Int) = ((min i m : Nat) : Int) := by omega
  obtain ⟨sr, hsr⟩ : ∃ sr, l[p].2.s = sr := ⟨_, rfl⟩
  rw [hsr] at g3
  clear c0 g0 hat hp ht hi hap hsr
  go_enter Tryz.func31, Tryz.ntmps31
  go_wp2_with (go_at_call 61; refine HAT.out.mono ?_; rintro _ _ ⟨rfl, q1, rfl⟩)
  obtain ⟨V, hV⟩ : ∃ V, w.drewN q1 = V := ⟨_, rfl⟩
  have hOV : Only [] w V := by rw [← hV]; exact ⟨rfl, rfl, rfl, Nat.le_refl _, fun _ _ _ => rfl⟩
  have hR1 : Hid (RC V B c z (some ⟨g, 0, none⟩) cap l) := Lib.hid ⟨by rw [← hV]; exact HR.out.c0, by rw [← hV]; exact HR.out.c1, by rw [← hV]; exact HR.out.f0, by rw [← hV]; exact HR.out.f1, by rw [← hV]; exact HR.out.row, HR.out.apart, HR.out.base⟩
  have d1 : V.cell? ⟨c, 1, none⟩ = some (.slice (some ⟨g, 0, none⟩) l.length cap) := by rw [← hV]; exact c1
  have d2 : V.cell? ⟨g, p * 4 + 1, none⟩ = some (.string t) := by rw [← hV]; exact g1
  have d3 : V.cell? ⟨g, p * 4 + 2, none⟩ = some (.int .i64 i) := by rw [← hV]; exact g2
  have d4 : V.frozen? ⟨g, p * 4 + 1, none⟩ = false := by rw [← hV]; exact z1
  have d5 : V.frozen? ⟨g, p * 4 + 2, none⟩ = false := by rw [← hV]; exact z2
  have d6 : V.frozen? ⟨g, p * 4 + 3, none⟩ = false := by rw [← hV]; exact z3
  have d7 : V.cell? ⟨g, p * 4 + 3, none⟩ = some (.bool sr) := by rw [← hV]; exact g3
  rw [hV]
  clear hV c1 g1 g2 g3 z1 z2 z3 HAT
  go_region
  all_goals
    go_wp2
    go_ret
    exact ⟨rfl, HF.out _ hOV.drew ⟨hR1.out.c0, hR1.out.c1, hR1.out.f0, hR1.out.f1, hR1.out.row, hR1.out.apart, hR1.out.base⟩⟩

end Go.Proofs.YtaekieoingflaaaGreatDoor
