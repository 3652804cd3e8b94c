/-
  The reference's Tear; chests as things that lie apart; same.
-/
import Derived.Test.YtaekieoingflaaaGreatDoorRfB
import Derived.Test.YtaekieoingflaaaGreatDoorJrB
import Derived.Test.YtaekieoingflaaaGreatDoorRoll13
import Derived.BigQuiet
import Derived.Deep.RegionHeld3
namespace Go.Proofs.YtaekieoingflaaaGreatDoor
open Go.RowKit Go.Maps Go.Proofs.MapD Go.Proofs.Chest

/-- What Tear has made so far. -/
def TearR (w : World) (D z : Nat) (L : Rolls) (W : World) : Prop := ∃ ad cap, RC W D D z ad cap L ∧ Below D w W

theorem tRolls_take (l : Rolls) (n : Int) (k : Nat) (hk : k < l.length) : tRolls (l.take (k + 1)) n = tRolls (l.take k) n ++ (match torn l[k].2 n with | none => [] | some r => [(l[k].1, r)]) := by
  unfold tRolls
  rw [List.take_succ_eq_append_getElem hk, List.filterMap_append]
  congr 1
  cases h : torn l[k].2 n <;> simp [h]

theorem tRolls_len (l : Rolls) (n : Int) (k : Nat) : (tRolls (l.take k) n).length ≤ k := by
  unfold tRolls
  refine Nat.le_trans (List.length_filterMap_le _ _) ?_
  rw [List.length_take]
  omega

/-- A roll more. -/
theorem TearR.more {w W W1 w2 : World} {D z cap : Nat} {ad va : Option Addr} {vc : Nat} {L : Rolls} {e : ByteArray × Rl} (h : RC W D D z ad cap L) (hB : Below D w W) (h1 : Only [] W W1)
    (hrow : w2.ownsRow D 63 4 (.slice va (L.length + 1) vc) (L.length + 1) (rcells L ++ [.string e.1, .string e.2.t, .int .i64 e.2.p, .bool e.2.s])) (hg : W1.grownBy w2 (Value.slice ad L.length cap).ownBlock)
    (hl : (Value.slice va (L.length + 1) vc).ownBlock = (Value.slice ad L.length cap).ownBlock ∨ (Value.slice va (L.length + 1) vc).ownBlock = some W1.heap.size) :
    (w2.cell? ⟨D, 1, none⟩ = some (.slice ad L.length cap) ∧ w2.frozen? ⟨D, 1, none⟩ = false) ∧ TearR w D z (L ++ [e]) (w2.setCell ⟨D, 1, none⟩ (.slice va (L.length + 1) vc)) := by
  have hD : D < W.heap.size := World.block_lt_of_cell? W _ h.c0
  have hD1 : D < W1.heap.size := Nat.lt_of_lt_of_le hD h1.size
  have hne : some D ≠ (Value.slice ad L.length cap).ownBlock := fun e => h.apart D e.symm rfl
  have eD : w2.heap[D]? = W.heap[D]? := (hg.block D hD1 hne).trans (h1.block D hD (by simp))
  have e1 : w2.cell? ⟨D, 1, none⟩ = some (.slice ad L.length cap) := by rw [cell_of_block eD]; exact h.c1
  have z1 : w2.frozen? ⟨D, 1, none⟩ = false := by rw [frozen_of_block eD]; exact h.f1
  have e0 : w2.cell? ⟨D, 0, none⟩ = some (.int .i64 z) := by rw [cell_of_block eD]; exact h.c0
  have z0 : w2.frozen? ⟨D, 0, none⟩ = false := by rw [frozen_of_block eD]; exact h.f0
  have hap : ∀ g, (Value.slice va (L.length + 1) vc).ownBlock = some g → g ≠ D := by
    intro g hgg hgD
    rcases hl with hl | hl
    · exact h.apart g (by rw [← hl]; exact hgg) hgD
    · rw [hl] at hgg
      have := Option.some.inj hgg
      omega
  refine ⟨⟨e1, z1⟩, va, vc, ⟨?_, ?_, ?_, ?_, ?_, ?_, Nat.le_refl _⟩, ?_⟩
  · go_simp
  · rw [List.length_append, List.length_singleton]; go_simp
  · go_simp
  · go_simp
  · rw [List.length_append, List.length_singleton, rcells_append]
    exact ownsRow_setCell_other hrow (fun e => hap D e rfl) _
  · rw [List.length_append, List.length_singleton]; exact hap
  · have hrb : ∀ g, (Value.slice ad L.length cap).ownBlock = some g → D ≤ g := by
      intro g hgg
      rcases h.row.2 with ⟨h0, _⟩ | ⟨g', cap', cur, hv, hb, _⟩
      · rw [h0] at hgg; cases hgg
      · rw [hv] at hgg; cases hgg; exact hb
    exact ((hB.trans (h1.to_below.mono (Nat.le_of_lt hD))).grown hg (Nat.le_of_lt hD1) hrb).setCell (Nat.le_refl _) _

set_option maxRecDepth 100000 in
set_option maxHeartbeats 8000000 in
theorem rtear_p2 {w : World} {c z cap : Nat} {ad : Option Addr} {l : Rolls} (h : RC w 0 c z ad cap l) (hp : ∀ e ∈ l, e.2.p ≤ e.2.t.size) (ht : total l ≤ 1048576) (hn : l.length ≤ 900000) (n : Int) :
    Calls Tryz.prog 13 #[.pointer (some ⟨c, 0, none⟩), .int .i64 n] w fun e w' => e = .returned (.pointer (some ⟨w.heap.size, 0, none⟩)) ∧ TearR w w.heap.size z (tRolls l n) w' := by
  obtain ⟨i0, hi, hz0, hz1, hz2⟩ := info_parts infoRoll
  have HR := Lib.hid h
  have HP := Lib.hid (And.intro hp ht)
  have hcw : c < w.heap.size := World.block_lt_of_cell? w _ h.c0
  obtain ⟨c0, _, _, _, _, _, _⟩ := h
  clear hp ht
  have HS0 : Hid (TearR w w.heap.size z (tRolls (l.take 0) n) (w.alloc (.cells #[.int .i64 z, .slice none 0 0] 61))) := Lib.hid ⟨none, 0, ⟨by go_simp, by go_simp; rfl, by go_simp, by go_simp, World.ownsRow_nil _ _ _ _, (fun g hg => by cases hg), Nat.le_refl _⟩, (Below.refl _ w).alloc (Nat.le_refl _) _⟩
  have HSRC : Hid (∀ W, Below w.heap.size w W → RC W 0 c z ad cap l) := Lib.hid (fun W hW => HR.out.far (hW.block c hcw) (fun g e => hW.block g (owns_old HR.out.row g (by rw [e]; rfl))))
  go_enter Tryz.func13, Tryz.ntmps13
  go_wp2_with fail
  go_loopw [6] (fun iv wr => ∃ k : Nat, k ≤ l.length ∧ iv = .int .i64 k ∧ Hid (TearR w w.heap.size z (tRolls (l.take k) n) wr)) (fun iv _ => l.length - (intOf iv).toNat)
  case atStart => exact ⟨0, by omega, rfl, HS0⟩
  case round =>
    obtain ⟨k, hk, rfl, HS⟩ := hrel
    have hc1 : wr.cell? ⟨c, 1, none⟩ = some (.slice ad l.length cap) := by
      obtain ⟨_, _, _, hb⟩ := HS.out
      exact (HSRC.out wr hb).c1
    by_cases hlt : k < l.length
    · have hlt' : (k : Int) < (l.length : Int) := by omega
      obtain ⟨ad', cap', hO, hB⟩ := HS.out
      have htk := tRolls_take l n k hlt
      have hM := tRolls_len l n k
      obtain ⟨g, rfl, hlc, hcm, g0, g1, g2, g3⟩ := (HSRC.out wr hB).at hlt
      have hpk := HP.out.1 l[k] (List.getElem_mem hlt)
      have htot := Nat.le_trans (total_le (List.getElem_mem hlt)) HP.out.2
      obtain ⟨⟨nm, t, p, s⟩, he⟩ : ∃ e : ByteArray × Rl, l[k] = e := ⟨_, rfl⟩
      rw [he] at g0 g1 g2 g3 htk hpk htot
      simp only at g0 g1 g2 g3 htk hpk htot
      clear he
      obtain ⟨m, hm⟩ : ∃ m : Nat, n.toNat % (t.size - p + 1) = m := ⟨_, rfl⟩
      have hmt : m < t.size - p + 1 := by rw [← hm]; exact Nat.mod_lt _ (by omega)
      have hstay : stays ⟨t, p, s⟩ n = p + m := by unfold stays; simp only; rw [hm]
      obtain ⟨sN, hsN⟩ : ∃ sN : Nat, sN = p + m := ⟨_, rfl⟩
      have HSUM : Hid ((p : Int) + (m : Int) = (sN : Int)) := Lib.hid (by omega)
      have hwr : IntKind.i64.wrap ((p : Int) + (m : Int)) = (p : Int) + (m : Int) := IntWalk.i64_in _ (by omega)
      have htorn : torn ⟨t, p, s⟩ n = if 0 < sN ∨ s = true then some ⟨t.extract 0 sN, sN, true⟩ else none := by
        unfold torn
        rw [hstay, hsN]
      have hb1 : (0 : Int) ≤ (t.size : Int) - (p : Int) + 1 := by omega
      have hb2 : ¬ (t.size : Int) - (p : Int) + 1 = 0 := by omega
      have hb3 : (0 : Int) ≤ (sN : Int) := by omega
      have hb4 : (sN : Int) ≤ (t.size : Int) := by omega
      rw [htorn] at htk
      have HTK := Lib.hid htk
      have HOUT := Lib.hid (And.intro hO hB)
      obtain ⟨o0, o1, o2, o3, _, _, _⟩ := hO
      clear htk htorn hstay
      by_cases h0 : (0 : Int) ≤ n
      · have hmm : n % ((t.size : Int) - (p : Int) + 1) = (m : Int) := by
          have := emod_nat n (t.size - p + 1) h0
          rw [show ((t.size : Int) - (p : Int) + 1) = (((t.size - p + 1 : Nat)) : Int) by omega, this, hm]
        clear hm hsN
        by_cases hz : sN = 0
        · have hpm : p = 0 ∧ m = 0 := by have := HSUM.out; omega
          obtain ⟨rfl, rfl⟩ := hpm
          subst hz
          have hmm' : n % ((t.size : Int) + 1) = 0 := by simpa using hmm
          cases s with
          | false =>
            go_wp2_with fail
            go_roundw
            case rel => exact ⟨k + 1, by omega, by go_num, Lib.hid (by rw [HTK.out, if_neg (by simp), List.append_nil]; exact ⟨_, _, HOUT.out.1.kept ((Only.refl [] wr).alloc _), HOUT.out.2.alloc (HOUT.out.2.size) _⟩)⟩
            case measure => simp [intOf]; omega
          | true =>
            go_wp2_with fail
            have HTS : Hid (tRolls (l.take (k + 1)) n = tRolls (l.take k) n ++ [(nm, ⟨ByteArray.empty, 0, true⟩)]) := Lib.hid (by rw [HTK.out, if_pos (by simp)]; simp)
            clear HTK
            generalize tRolls (l.take k) n = L at *
            obtain ⟨VA, hVA⟩ : ∃ VA, wr.alloc (.cells #[.string nm, .string t, .int .i64 0, .bool true] 63) = VA := ⟨_, rfl⟩
            have hDw : w.heap.size < wr.heap.size := World.block_lt_of_cell? wr _ o0
            have hOV : Only [] wr VA := by rw [← hVA]; exact (Only.refl [] wr).alloc _
            have hAb : VA.heap[wr.heap.size]? = some (.cells #[.string nm, .string t, .int .i64 0, .bool true] 63 (0, 0)) := by rw [← hVA]; exact heap_alloc_new wr _
            have hAl : wr.heap.size < VA.heap.size := by rw [← hVA]; simp
            rw [hVA]
            clear hVA
            have HRB : Hid (∀ W : World, W.heap[wr.heap.size]? = VA.heap[wr.heap.size]? → W.cell? ⟨wr.heap.size, 0, none⟩ = some (.string nm) ∧ W.cell? ⟨wr.heap.size, 1, none⟩ = some (.string t) ∧ W.cell? ⟨wr.heap.size, 2, none⟩ = some (.int .i64 0)) := Lib.hid (by
              intro W hW
              rw [hAb] at hW
              refine ⟨?_, ?_, ?_⟩
              · rw [cell_of_row W wr.heap.size 0 _ _ _ hW]; rfl
              · rw [cell_of_row W wr.heap.size 1 _ _ _ hW]; rfl
              · rw [cell_of_row W wr.heap.size 2 _ _ _ hW]; rfl)
            have HSS : Hid (∀ W, Only [] VA W → (fun W => W.cell? ⟨w.heap.size, 1, none⟩ = some (.slice ad' L.length cap') ∧ W.cell? ⟨wr.heap.size, 0, none⟩ = some (.string nm) ∧ W.cell? ⟨wr.heap.size, 1, none⟩ = some (.string t) ∧ W.cell? ⟨wr.heap.size, 2, none⟩ = some (.int .i64 0)) W) := Lib.hid (fun W hW => ⟨(HOUT.out.1.kept (hOV.trans hW (by simp))).c1, HRB.out W (hW.block _ hAl (by simp))⟩)
            have HVV := Lib.hid (And.intro hOV hAl)
            have hoE : Hid (∀ u ∈ ([.string nm, .string ByteArray.empty, .int .i64 0, .bool true] : List Value), u.oneCell' = true) := Lib.hid (by intro u hu; simp at hu; rcases hu with rfl | rfl | rfl | rfl <;> rfl)
            have HNA : Hid (∀ W : World, ∀ j u, ([.string nm, .string ByteArray.empty, .int .i64 0, .bool true] : List Value)[j]? = some u → (W.alloc (.cells #[.string nm, .string ByteArray.empty, .int .i64 0, .bool true] 63)).cell? ((⟨W.heap.size, 0, none⟩ : Addr).add j) = some u) := Lib.hid (fun W => World.news_of_block (cs := #[.string nm, .string ByteArray.empty, .int .i64 0, .bool true]) (heap_alloc_new W _))
            have HD : Hid (Only [] VA VA.drew) := Lib.hid (Only.refl [] VA).drew
            have HROW : Hid (∀ W, Only [] VA W → W.ownsRow w.heap.size 63 4 (.slice ad' L.length cap') L.length (rcells L) ∧ w.heap.size ≤ W.heap.size) := Lib.hid (fun W hW => ⟨(HOUT.out.1.kept (HVV.out.1.trans hW (by simp))).row, Nat.le_trans (Nat.le_of_lt hDw) (Nat.le_trans HVV.out.1.size hW.size)⟩)
            clear hAb hOV hAl o0 o1 o2 o3
            have hS0 := HSS.out _ HD.out
            refine wp_region_last (S := fun W => W.cell? ⟨w.heap.size, 1, none⟩ = some (.slice ad' L.length cap') ∧ W.cell? ⟨wr.heap.size, 0, none⟩ = some (.string nm) ∧ W.cell? ⟨wr.heap.size, 1, none⟩ = some (.string t) ∧ W.cell? ⟨wr.heap.size, 2, none⟩ = some (.int .i64 0)) (by kernel_rfl) (ops := List.toArray [_, _, _, _, _, _, _, _, _, _, _, _, _, _, _, _, _, _, _, _, _, _, _]) (o := _) rfl (by kernel_rfl) ?_
            refine wpAnyH_take (i := 0) (v := Value.pointer (some ⟨w.heap.size, 0, none⟩)) rfl (by kernel_rfl) (by kernel_rfl) (by kernel_rfl) (fun _ _ _ h => h) (Or.inl ⟨by rfl, ?_⟩) hS0 ?_
            · intro w' hSw; go_simp
            refine wpAnyH_take (i := 1) (v := Value.pointer (some ⟨w.heap.size, 0, none⟩)) rfl (by kernel_rfl) (by kernel_rfl) (by kernel_rfl) (fun _ _ _ h => h) (Or.inl ⟨by rfl, ?_⟩) hS0 ?_
            · intro w' hSw; go_simp
            refine wpAnyH_take (i := 2) (v := Value.pointer (some ⟨w.heap.size, 0, none⟩)) rfl (by kernel_rfl) (by kernel_rfl) (by kernel_rfl) (fun _ _ _ h => h) (Or.inl ⟨by rfl, ?_⟩) hS0 ?_
            · intro w' hSw; go_simp
            refine wpAnyH_take (i := 3) (v := Value.pointer (some ⟨w.heap.size, 1, none⟩)) rfl (by kernel_rfl) (by kernel_rfl) (by kernel_rfl) (fun _ _ _ h => h) (Or.inl ⟨by rfl, ?_⟩) hS0 ?_
            · intro w' hSw; go_simp
            refine wpAnyH_take (i := 4) (v := Value.slice ad' L.length cap') rfl (by kernel_rfl) (by kernel_rfl) (by kernel_rfl) (fun _ _ _ h => h) (Or.inl ⟨by rfl, ?_⟩) hS0 ?_
            · intro w' hSw; go_simp
            refine wpAnyH_take (i := 5) (v := Value.pointer (some ⟨wr.heap.size, 0, none⟩)) rfl (by kernel_rfl) (by kernel_rfl) (by kernel_rfl) (fun _ _ _ h => h) (Or.inl ⟨by rfl, ?_⟩) hS0 ?_
            · intro w' hSw; go_simp
            refine wpAnyH_take (i := 6) (v := Value.string nm) rfl (by kernel_rfl) (by kernel_rfl) (by kernel_rfl) (fun _ _ _ h => h) (Or.inl ⟨by rfl, ?_⟩) hS0 ?_
            · intro w' hSw; go_simp
            refine wpAnyH_take (i := 7) (v := Value.pointer (some ⟨wr.heap.size, 1, none⟩)) rfl (by kernel_rfl) (by kernel_rfl) (by kernel_rfl) (fun _ _ _ h => h) (Or.inl ⟨by rfl, ?_⟩) hS0 ?_
            · intro w' hSw; go_simp
            refine wpAnyH_take (i := 8) (v := Value.string t) rfl (by kernel_rfl) (by kernel_rfl) (by kernel_rfl) (fun _ _ _ h => h) (Or.inl ⟨by rfl, ?_⟩) hS0 ?_
            · intro w' hSw; go_simp
            refine wpAnyH_take (i := 9) (v := Value.pointer (some ⟨wr.heap.size, 2, none⟩)) rfl (by kernel_rfl) (by kernel_rfl) (by kernel_rfl) (fun _ _ _ h => h) (Or.inl ⟨by rfl, ?_⟩) hS0 ?_
            · intro w' hSw; go_simp
            refine wpAnyH_take (i := 10) (v := Value.int .i64 0) rfl (by kernel_rfl) (by kernel_rfl) (by kernel_rfl) (fun _ _ _ h => h) (Or.inl ⟨by rfl, ?_⟩) hS0 ?_
            · intro w' hSw; go_simp
            refine wpAnyH_take (i := 11) (v := Value.int .i64 0) rfl (by kernel_rfl) (by kernel_rfl) (by kernel_rfl) (fun _ _ _ h => h) (Or.inl ⟨by rfl, ?_⟩) hS0 ?_
            · intro w' hSw; go_simp
            refine wpAnyH_take (i := 12) (v := Value.int .i64 0) rfl (by kernel_rfl) (by kernel_rfl) (by kernel_rfl) (fun _ _ _ h => h) (Or.inl ⟨by rfl, ?_⟩) hS0 ?_
            · intro w' hSw; have hw0 : IntKind.i64.wrap 0 = 0 := rfl; go_simp
            refine wpAnyH_take (i := 13) (v := Value.string ByteArray.empty) rfl (by kernel_rfl) (by kernel_rfl) (by kernel_rfl) (fun _ _ _ h => h) (Or.inl ⟨by rfl, ?_⟩) hS0 ?_
            · intro w' hSw; go_simp
            refine wpAnyH_take (i := 14) (v := Value.pointer (some ⟨wr.heap.size, 2, none⟩)) rfl (by kernel_rfl) (by kernel_rfl) (by kernel_rfl) (fun _ _ _ h => h) (Or.inl ⟨by rfl, ?_⟩) hS0 ?_
            · intro w' hSw; go_simp
            refine wpAnyH_take (i := 15) (v := Value.int .i64 0) rfl (by kernel_rfl) (by kernel_rfl) (by kernel_rfl) (fun _ _ _ h => h) (Or.inl ⟨by rfl, ?_⟩) hS0 ?_
            · intro w' hSw; go_simp
            refine wpAnyH_take (i := 16) (v := Value.int .i64 0) rfl (by kernel_rfl) (by kernel_rfl) (by kernel_rfl) (fun _ _ _ h => h) (Or.inl ⟨by rfl, ?_⟩) hS0 ?_
            · intro w' hSw; go_simp
            refine wpAnyH_take (i := 17) (v := Value.int .i64 0) rfl (by kernel_rfl) (by kernel_rfl) (by kernel_rfl) (fun _ _ _ h => h) (Or.inl ⟨by rfl, ?_⟩) hS0 ?_
            · intro w' hSw; have hw0 : IntKind.i64.wrap 0 = 0 := rfl; go_simp
            refine wpAnyH_take (i := 18) (v := Value.agg #[.string nm, .string ByteArray.empty, .int .i64 0, .bool true]) rfl (by kernel_rfl) (by kernel_rfl) (by kernel_rfl) (fun _ _ _ h => h) (Or.inl ⟨by rfl, ?_⟩) hS0 ?_
            · intro w' hSw; go_simp
            simp only [List.getElem_toArray, List.getElem_cons_succ, List.getElem_cons_zero, Act.put, List.setIfInBounds_toArray, List.set_cons_zero, List.set_cons_succ]
            refine wpAnyH_ready (rs := [19]) (by kernel_rfl) (by simp) ?_
            refine AllReadyH.cons rfl (fun K hK => ?_) AllReadyH.nil
            simp only [List.getElem_toArray, List.getElem_cons_succ, List.getElem_cons_zero]
            go_simp
            refine hK.out _ _ (HSS.out _ (HD.out.alloc _)) (fun _ => ?_)
            clear hK
            refine wpAnyH_ready (rs := [20]) (by kernel_rfl) (by simp) ?_
            refine AllReadyH.cons rfl (fun K hK => ?_) AllReadyH.nil
            simp only [List.getElem_toArray, List.getElem_cons_succ, List.getElem_cons_zero]
            rw [if_pos (by rfl)]
            refine op_append_at (.tmp 56) (.tmp 71) 59 rfl w.heap.size 63 i0 _ 4 48 Tryz.underlying59 hi hz0 hz1 hz2 rfl (by decide) (.slice ad' L.length cap') L.length (rcells L) rfl (HROW.out _ (HD.out.alloc _)).1 ⟨VA.drew.heap.size, 0, none⟩ 1 1 [.string nm, .string ByteArray.empty, .int .i64 0, .bool true] rfl rfl (HNA.out VA.drew) hoE.out (by unfold maxLen; omega) (by omega) (HROW.out _ (HD.out.alloc _)).2 fun v' w2 h2 h3 h4 => ?_
            obtain ⟨va, vc, rfl⟩ := owns_shape4 h2
            have HM := Lib.hid (TearR.more (e := (nm, ⟨ByteArray.empty, 0, true⟩)) HOUT.out.1 HOUT.out.2 (HVV.out.1.trans (HD.out.alloc _) (by simp)) h2 h3 h4)
            have hb2 : w2.heap[wr.heap.size]? = VA.heap[wr.heap.size]? := by
              rw [h3.block wr.heap.size (by have := HVV.out.2; simp; omega) (fun e => by have := owns_old HOUT.out.1.row _ e.symm; omega)]
              exact (HD.out.alloc _).block _ HVV.out.2 (by simp)
            refine hK.out _ _ ⟨HM.out.1.1, HRB.out w2 hb2⟩ (fun hS0 => ?_)
            clear hK h2 h3 h4 hb2
            obtain ⟨p1, p2⟩ := HM.out.1
            simp only [Act.put, List.setIfInBounds_toArray, List.set_cons_zero, List.set_cons_succ]
            refine wpAnyH_take (i := 21) (v := Value.pointer (some ⟨w.heap.size, 0, none⟩)) rfl (by kernel_rfl) (by kernel_rfl) (by kernel_rfl) (fun _ _ _ h => h) (Or.inl ⟨by rfl, ?_⟩) hS0 ?_
            · intro w' hSw; go_simp
            refine wpAnyH_take (i := 22) (v := Value.pointer (some ⟨w.heap.size, 1, none⟩)) rfl (by kernel_rfl) (by kernel_rfl) (by kernel_rfl) (fun _ _ _ h => h) (Or.inl ⟨by rfl, ?_⟩) hS0 ?_
            · intro w' hSw; go_simp
            simp only [List.getElem_toArray, List.getElem_cons_succ, List.getElem_cons_zero, Act.put, List.setIfInBounds_toArray, List.set_cons_zero, List.set_cons_succ]
            refine wpAnyH_done (by kernel_rfl) ?_ _
            rw [Exit.then]
            rw [if_pos (by rfl)]
            go_simp
            go_wp2_with fail
            go_roundw
            case rel => exact ⟨k + 1, by omega, by go_num, Lib.hid (by rw [HTS.out]; exact HM.out.2)⟩
            case measure => simp [intOf]; omega
        · have hzi : ¬ (p : Int) + (m : Int) = 0 := by have := HSUM.out; omega
          go_wp2_with fail
          have HTS : Hid (tRolls (l.take (k + 1)) n = tRolls (l.take k) n ++ [(nm, ⟨(t.extract 0 sN), sN, true⟩)]) := Lib.hid (by rw [HTK.out, if_pos (by exact .inl (by omega))])
          clear HTK
          generalize tRolls (l.take k) n = L at *
          obtain ⟨VA, hVA⟩ : ∃ VA, wr.alloc (.cells #[.string nm, .string t, .int .i64 (p : Nat), .bool s] 63) = VA := ⟨_, rfl⟩
          have hDw : w.heap.size < wr.heap.size := World.block_lt_of_cell? wr _ o0
          have hOV : Only [] wr VA := by rw [← hVA]; exact (Only.refl [] wr).alloc _
          have hAb : VA.heap[wr.heap.size]? = some (.cells #[.string nm, .string t, .int .i64 (p : Nat), .bool s] 63 (0, 0)) := by rw [← hVA]; exact heap_alloc_new wr _
          have hAl : wr.heap.size < VA.heap.size := by rw [← hVA]; simp
          rw [hVA]
          clear hVA
          have HRB : Hid (∀ W : World, W.heap[wr.heap.size]? = VA.heap[wr.heap.size]? → W.cell? ⟨wr.heap.size, 0, none⟩ = some (.string nm) ∧ W.cell? ⟨wr.heap.size, 1, none⟩ = some (.string t) ∧ W.cell? ⟨wr.heap.size, 2, none⟩ = some (.int .i64 (p : Nat))) := Lib.hid (by
            intro W hW
            rw [hAb] at hW
            refine ⟨?_, ?_, ?_⟩
            · rw [cell_of_row W wr.heap.size 0 _ _ _ hW]; rfl
            · rw [cell_of_row W wr.heap.size 1 _ _ _ hW]; rfl
            · rw [cell_of_row W wr.heap.size 2 _ _ _ hW]; rfl)
          have HSS : Hid (∀ W, Only [] VA W → (fun W => W.cell? ⟨w.heap.size, 1, none⟩ = some (.slice ad' L.length cap') ∧ W.cell? ⟨wr.heap.size, 0, none⟩ = some (.string nm) ∧ W.cell? ⟨wr.heap.size, 1, none⟩ = some (.string t) ∧ W.cell? ⟨wr.heap.size, 2, none⟩ = some (.int .i64 (p : Nat))) W) := Lib.hid (fun W hW => ⟨(HOUT.out.1.kept (hOV.trans hW (by simp))).c1, HRB.out W (hW.block _ hAl (by simp))⟩)
          have HVV := Lib.hid (And.intro hOV hAl)
          have hoE : Hid (∀ u ∈ ([.string nm, .string (t.extract 0 sN), .int .i64 (sN : Nat), .bool true] : List Value), u.oneCell' = true) := Lib.hid (by intro u hu; simp at hu; rcases hu with rfl | rfl | rfl | rfl <;> rfl)
          have HNA : Hid (∀ W : World, ∀ j u, ([.string nm, .string (t.extract 0 sN), .int .i64 (sN : Nat), .bool true] : List Value)[j]? = some u → (W.alloc (.cells #[.string nm, .string (t.extract 0 sN), .int .i64 (sN : Nat), .bool true] 63)).cell? ((⟨W.heap.size, 0, none⟩ : Addr).add j) = some u) := Lib.hid (fun W => World.news_of_block (cs := #[.string nm, .string (t.extract 0 sN), .int .i64 (sN : Nat), .bool true]) (heap_alloc_new W _))
          have HD : Hid (Only [] VA VA.drew) := Lib.hid (Only.refl [] VA).drew
          have HROW : Hid (∀ W, Only [] VA W → W.ownsRow w.heap.size 63 4 (.slice ad' L.length cap') L.length (rcells L) ∧ w.heap.size ≤ W.heap.size) := Lib.hid (fun W hW => ⟨(HOUT.out.1.kept (HVV.out.1.trans hW (by simp))).row, Nat.le_trans (Nat.le_of_lt hDw) (Nat.le_trans HVV.out.1.size hW.size)⟩)
          clear hAb hOV hAl o0 o1 o2 o3
          have hS0 := HSS.out _ HD.out
          refine wp_region_last (S := fun W => W.cell? ⟨w.heap.size, 1, none⟩ = some (.slice ad' L.length cap') ∧ W.cell? ⟨wr.heap.size, 0, none⟩ = some (.string nm) ∧ W.cell? ⟨wr.heap.size, 1, none⟩ = some (.string t) ∧ W.cell? ⟨wr.heap.size, 2, none⟩ = some (.int .i64 (p : Nat))) (by kernel_rfl) (ops := List.toArray [_, _, _, _, _, _, _, _, _, _, _, _, _, _, _, _, _, _, _, _, _, _, _]) (o := _) rfl (by kernel_rfl) ?_
          refine wpAnyH_take (i := 0) (v := Value.pointer (some ⟨w.heap.size, 0, none⟩)) rfl (by kernel_rfl) (by kernel_rfl) (by kernel_rfl) (fun _ _ _ h => h) (Or.inl ⟨by rfl, ?_⟩) hS0 ?_
          · intro w' hSw; go_simp
          refine wpAnyH_take (i := 1) (v := Value.pointer (some ⟨w.heap.size, 0, none⟩)) rfl (by kernel_rfl) (by kernel_rfl) (by kernel_rfl) (fun _ _ _ h => h) (Or.inl ⟨by rfl, ?_⟩) hS0 ?_
          · intro w' hSw; go_simp
          refine wpAnyH_take (i := 2) (v := Value.pointer (some ⟨w.heap.size, 0, none⟩)) rfl (by kernel_rfl) (by kernel_rfl) (by kernel_rfl) (fun _ _ _ h => h) (Or.inl ⟨by rfl, ?_⟩) hS0 ?_
          · intro w' hSw; go_simp
          refine wpAnyH_take (i := 3) (v := Value.pointer (some ⟨w.heap.size, 1, none⟩)) rfl (by kernel_rfl) (by kernel_rfl) (by kernel_rfl) (fun _ _ _ h => h) (Or.inl ⟨by rfl, ?_⟩) hS0 ?_
          · intro w' hSw; go_simp
          refine wpAnyH_take (i := 4) (v := Value.slice ad' L.length cap') rfl (by kernel_rfl) (by kernel_rfl) (by kernel_rfl) (fun _ _ _ h => h) (Or.inl ⟨by rfl, ?_⟩) hS0 ?_
          · intro w' hSw; go_simp
          refine wpAnyH_take (i := 5) (v := Value.pointer (some ⟨wr.heap.size, 0, none⟩)) rfl (by kernel_rfl) (by kernel_rfl) (by kernel_rfl) (fun _ _ _ h => h) (Or.inl ⟨by rfl, ?_⟩) hS0 ?_
          · intro w' hSw; go_simp
          refine wpAnyH_take (i := 6) (v := Value.string nm) rfl (by kernel_rfl) (by kernel_rfl) (by kernel_rfl) (fun _ _ _ h => h) (Or.inl ⟨by rfl, ?_⟩) hS0 ?_
          · intro w' hSw; go_simp
          refine wpAnyH_take (i := 7) (v := Value.pointer (some ⟨wr.heap.size, 1, none⟩)) rfl (by kernel_rfl) (by kernel_rfl) (by kernel_rfl) (fun _ _ _ h => h) (Or.inl ⟨by rfl, ?_⟩) hS0 ?_
          · intro w' hSw; go_simp
          refine wpAnyH_take (i := 8) (v := Value.string t) rfl (by kernel_rfl) (by kernel_rfl) (by kernel_rfl) (fun _ _ _ h => h) (Or.inl ⟨by rfl, ?_⟩) hS0 ?_
          · intro w' hSw; go_simp
          refine wpAnyH_take (i := 9) (v := Value.pointer (some ⟨wr.heap.size, 2, none⟩)) rfl (by kernel_rfl) (by kernel_rfl) (by kernel_rfl) (fun _ _ _ h => h) (Or.inl ⟨by rfl, ?_⟩) hS0 ?_
          · intro w' hSw; go_simp
          refine wpAnyH_take (i := 10) (v := Value.int .i64 p) rfl (by kernel_rfl) (by kernel_rfl) (by kernel_rfl) (fun _ _ _ h => h) (Or.inl ⟨by rfl, ?_⟩) hS0 ?_
          · intro w' hSw; go_simp
          refine wpAnyH_take (i := 11) (v := Value.int .i64 (m : Int)) rfl (by kernel_rfl) (by kernel_rfl) (by kernel_rfl) (fun _ _ _ h => h) (Or.inl ⟨by rfl, ?_⟩) hS0 ?_
          · intro w' hSw; go_simp
          refine wpAnyH_take (i := 12) (v := Value.int .i64 (sN : Nat)) rfl (by kernel_rfl) (by kernel_rfl) (by kernel_rfl) (fun _ _ _ h => h) (Or.inl ⟨by rfl, ?_⟩) hS0 ?_
          · intro w' hSw; have hs := HSUM.out; have hw2 : IntKind.i64.wrap (sN : Int) = sN := IntWalk.i64_in _ (by omega); go_simp
          refine wpAnyH_take (i := 13) (v := Value.string (t.extract 0 sN)) rfl (by kernel_rfl) (by kernel_rfl) (by kernel_rfl) (fun _ _ _ h => h) (Or.inl ⟨by rfl, ?_⟩) hS0 ?_
          · intro w' hSw; go_simp
          refine wpAnyH_take (i := 14) (v := Value.pointer (some ⟨wr.heap.size, 2, none⟩)) rfl (by kernel_rfl) (by kernel_rfl) (by kernel_rfl) (fun _ _ _ h => h) (Or.inl ⟨by rfl, ?_⟩) hS0 ?_
          · intro w' hSw; go_simp
          refine wpAnyH_take (i := 15) (v := Value.int .i64 p) rfl (by kernel_rfl) (by kernel_rfl) (by kernel_rfl) (fun _ _ _ h => h) (Or.inl ⟨by rfl, ?_⟩) hS0 ?_
          · intro w' hSw; go_simp
          refine wpAnyH_take (i := 16) (v := Value.int .i64 (m : Int)) rfl (by kernel_rfl) (by kernel_rfl) (by kernel_rfl) (fun _ _ _ h => h) (Or.inl ⟨by rfl, ?_⟩) hS0 ?_
          · intro w' hSw; go_simp
          refine wpAnyH_take (i := 17) (v := Value.int .i64 (sN : Nat)) rfl (by kernel_rfl) (by kernel_rfl) (by kernel_rfl) (fun _ _ _ h => h) (Or.inl ⟨by rfl, ?_⟩) hS0 ?_
          · intro w' hSw; have hs := HSUM.out; have hw2 : IntKind.i64.wrap (sN : Int) = sN := IntWalk.i64_in _ (by omega); go_simp
          refine wpAnyH_take (i := 18) (v := Value.agg #[.string nm, .string (t.extract 0 sN), .int .i64 (sN : Nat), .bool true]) rfl (by kernel_rfl) (by kernel_rfl) (by kernel_rfl) (fun _ _ _ h => h) (Or.inl ⟨by rfl, ?_⟩) hS0 ?_
          · intro w' hSw; go_simp
          simp only [List.getElem_toArray, List.getElem_cons_succ, List.getElem_cons_zero, Act.put, List.setIfInBounds_toArray, List.set_cons_zero, List.set_cons_succ]
          refine wpAnyH_ready (rs := [19]) (by kernel_rfl) (by simp) ?_
          refine AllReadyH.cons rfl (fun K hK => ?_) AllReadyH.nil
          simp only [List.getElem_toArray, List.getElem_cons_succ, List.getElem_cons_zero]
          go_simp
          refine hK.out _ _ (HSS.out _ (HD.out.alloc _)) (fun _ => ?_)
          clear hK
          refine wpAnyH_ready (rs := [20]) (by kernel_rfl) (by simp) ?_
          refine AllReadyH.cons rfl (fun K hK => ?_) AllReadyH.nil
          simp only [List.getElem_toArray, List.getElem_cons_succ, List.getElem_cons_zero]
          rw [if_pos (by rfl)]
          refine op_append_at (.tmp 56) (.tmp 71) 59 rfl w.heap.size 63 i0 _ 4 48 Tryz.underlying59 hi hz0 hz1 hz2 rfl (by decide) (.slice ad' L.length cap') L.length (rcells L) rfl (HROW.out _ (HD.out.alloc _)).1 ⟨VA.drew.heap.size, 0, none⟩ 1 1 [.string nm, .string (t.extract 0 sN), .int .i64 (sN : Nat), .bool true] rfl rfl (HNA.out VA.drew) hoE.out (by unfold maxLen; omega) (by omega) (HROW.out _ (HD.out.alloc _)).2 fun v' w2 h2 h3 h4 => ?_
          obtain ⟨va, vc, rfl⟩ := owns_shape4 h2
          have HM := Lib.hid (TearR.more (e := (nm, ⟨(t.extract 0 sN), sN, true⟩)) HOUT.out.1 HOUT.out.2 (HVV.out.1.trans (HD.out.alloc _) (by simp)) h2 h3 h4)
          have hb2 : w2.heap[wr.heap.size]? = VA.heap[wr.heap.size]? := by
            rw [h3.block wr.heap.size (by have := HVV.out.2; simp; omega) (fun e => by have := owns_old HOUT.out.1.row _ e.symm; omega)]
            exact (HD.out.alloc _).block _ HVV.out.2 (by simp)
          refine hK.out _ _ ⟨HM.out.1.1, HRB.out w2 hb2⟩ (fun hS0 => ?_)
          clear hK h2 h3 h4 hb2
          obtain ⟨p1, p2⟩ := HM.out.1
          simp only [Act.put, List.setIfInBounds_toArray, List.set_cons_zero, List.set_cons_succ]
          refine wpAnyH_take (i := 21) (v := Value.pointer (some ⟨w.heap.size, 0, none⟩)) rfl (by kernel_rfl) (by kernel_rfl) (by kernel_rfl) (fun _ _ _ h => h) (Or.inl ⟨by rfl, ?_⟩) hS0 ?_
          · intro w' hSw; go_simp
          refine wpAnyH_take (i := 22) (v := Value.pointer (some ⟨w.heap.size, 1, none⟩)) rfl (by kernel_rfl) (by kernel_rfl) (by kernel_rfl) (fun _ _ _ h => h) (Or.inl ⟨by rfl, ?_⟩) hS0 ?_
          · intro w' hSw; go_simp
          simp only [List.getElem_toArray, List.getElem_cons_succ, List.getElem_cons_zero, Act.put, List.setIfInBounds_toArray, List.set_cons_zero, List.set_cons_succ]
          refine wpAnyH_done (by kernel_rfl) ?_ _
          rw [Exit.then]
          rw [if_pos (by rfl)]
          go_simp
          go_wp2_with fail
          go_roundw
          case rel => exact ⟨k + 1, by omega, by go_num, Lib.hid (by rw [HTS.out]; exact HM.out.2)⟩
          case measure => simp [intOf]; omega
      · have hm0 : m = 0 := by
          rw [← hm, show n.toNat = 0 by omega]
          exact Nat.zero_mod _
        obtain rfl : sN = p := by omega
        clear hm HSUM hwr hsN
        by_cases hz : sN = 0
        · subst hz
          cases s with
          | false =>
            go_wp2_with fail
            go_roundw
            case rel => exact ⟨k + 1, by omega, by go_num, Lib.hid (by rw [HTK.out, if_neg (by simp), List.append_nil]; exact ⟨_, _, HOUT.out.1.kept ((Only.refl [] wr).alloc _), HOUT.out.2.alloc (HOUT.out.2.size) _⟩)⟩
            case measure => simp [intOf]; omega
          | true =>
            go_wp2_with fail
            have HTS : Hid (tRolls (l.take (k + 1)) n = tRolls (l.take k) n ++ [(nm, ⟨ByteArray.empty, 0, true⟩)]) := Lib.hid (by rw [HTK.out, if_pos (by simp)]; simp)
            clear HTK
            generalize tRolls (l.take k) n = L at *
            obtain ⟨VA, hVA⟩ : ∃ VA, wr.alloc (.cells #[.string nm, .string t, .int .i64 0, .bool true] 63) = VA := ⟨_, rfl⟩
            have hDw : w.heap.size < wr.heap.size := World.block_lt_of_cell? wr _ o0
            have hOV : Only [] wr VA := by rw [← hVA]; exact (Only.refl [] wr).alloc _
            have hAb : VA.heap[wr.heap.size]? = some (.cells #[.string nm, .string t, .int .i64 0, .bool true] 63 (0, 0)) := by rw [← hVA]; exact heap_alloc_new wr _
            have hAl : wr.heap.size < VA.heap.size := by rw [← hVA]; simp
            rw [hVA]
            clear hVA
            have HRB : Hid (∀ W : World, W.heap[wr.heap.size]? = VA.heap[wr.heap.size]? → W.cell? ⟨wr.heap.size, 0, none⟩ = some (.string nm) ∧ W.cell? ⟨wr.heap.size, 1, none⟩ = some (.string t) ∧ W.cell? ⟨wr.heap.size, 2, none⟩ = some (.int .i64 0)) := Lib.hid (by
              intro W hW
              rw [hAb] at hW
              refine ⟨?_, ?_, ?_⟩
              · rw [cell_of_row W wr.heap.size 0 _ _ _ hW]; rfl
              · rw [cell_of_row W wr.heap.size 1 _ _ _ hW]; rfl
              · rw [cell_of_row W wr.heap.size 2 _ _ _ hW]; rfl)
            have HSS : Hid (∀ W, Only [] VA W → (fun W => W.cell? ⟨w.heap.size, 1, none⟩ = some (.slice ad' L.length cap') ∧ W.cell? ⟨wr.heap.size, 0, none⟩ = some (.string nm) ∧ W.cell? ⟨wr.heap.size, 1, none⟩ = some (.string t) ∧ W.cell? ⟨wr.heap.size, 2, none⟩ = some (.int .i64 0)) W) := Lib.hid (fun W hW => ⟨(HOUT.out.1.kept (hOV.trans hW (by simp))).c1, HRB.out W (hW.block _ hAl (by simp))⟩)
            have HVV := Lib.hid (And.intro hOV hAl)
            have hoE : Hid (∀ u ∈ ([.string nm, .string ByteArray.empty, .int .i64 0, .bool true] : List Value), u.oneCell' = true) := Lib.hid (by intro u hu; simp at hu; rcases hu with rfl | rfl | rfl | rfl <;> rfl)
            have HNA : Hid (∀ W : World, ∀ j u, ([.string nm, .string ByteArray.empty, .int .i64 0, .bool true] : List Value)[j]? = some u → (W.alloc (.cells #[.string nm, .string ByteArray.empty, .int .i64 0, .bool true] 63)).cell? ((⟨W.heap.size, 0, none⟩ : Addr).add j) = some u) := Lib.hid (fun W => World.news_of_block (cs := #[.string nm, .string ByteArray.empty, .int .i64 0, .bool true]) (heap_alloc_new W _))
            have HD : Hid (Only [] VA VA.drew) := Lib.hid (Only.refl [] VA).drew
            have HROW : Hid (∀ W, Only [] VA W → W.ownsRow w.heap.size 63 4 (.slice ad' L.length cap') L.length (rcells L) ∧ w.heap.size ≤ W.heap.size) := Lib.hid (fun W hW => ⟨(HOUT.out.1.kept (HVV.out.1.trans hW (by simp))).row, Nat.le_trans (Nat.le_of_lt hDw) (Nat.le_trans HVV.out.1.size hW.size)⟩)
            clear hAb hOV hAl o0 o1 o2 o3
            have hS0 := HSS.out _ HD.out
            refine wp_region_last (S := fun W => W.cell? ⟨w.heap.size, 1, none⟩ = some (.slice ad' L.length cap') ∧ W.cell? ⟨wr.heap.size, 0, none⟩ = some (.string nm) ∧ W.cell? ⟨wr.heap.size, 1, none⟩ = some (.string t) ∧ W.cell? ⟨wr.heap.size, 2, none⟩ = some (.int .i64 0)) (by kernel_rfl) (ops := List.toArray [_, _, _, _, _, _, _, _, _, _, _, _, _, _, _, _, _, _, _, _, _, _, _]) (o := _) rfl (by kernel_rfl) ?_
            refine wpAnyH_take (i := 0) (v := Value.pointer (some ⟨w.heap.size, 0, none⟩)) rfl (by kernel_rfl) (by kernel_rfl) (by kernel_rfl) (fun _ _ _ h => h) (Or.inl ⟨by rfl, ?_⟩) hS0 ?_
            · intro w' hSw; go_simp
            refine wpAnyH_take (i := 1) (v := Value.pointer (some ⟨w.heap.size, 0, none⟩)) rfl (by kernel_rfl) (by kernel_rfl) (by kernel_rfl) (fun _ _ _ h => h) (Or.inl ⟨by rfl, ?_⟩) hS0 ?_
            · intro w' hSw; go_simp
            refine wpAnyH_take (i := 2) (v := Value.pointer (some ⟨w.heap.size, 0, none⟩)) rfl (by kernel_rfl) (by kernel_rfl) (by kernel_rfl) (fun _ _ _ h => h) (Or.inl ⟨by rfl, ?_⟩) hS0 ?_
            · intro w' hSw; go_simp
            refine wpAnyH_take (i := 3) (v := Value.pointer (some ⟨w.heap.size, 1, none⟩)) rfl (by kernel_rfl) (by kernel_rfl) (by kernel_rfl) (fun _ _ _ h => h) (Or.inl ⟨by rfl, ?_⟩) hS0 ?_
            · intro w' hSw; go_simp
            refine wpAnyH_take (i := 4) (v := Value.slice ad' L.length cap') rfl (by kernel_rfl) (by kernel_rfl) (by kernel_rfl) (fun _ _ _ h => h) (Or.inl ⟨by rfl, ?_⟩) hS0 ?_
            · intro w' hSw; go_simp
            refine wpAnyH_take (i := 5) (v := Value.pointer (some ⟨wr.heap.size, 0, none⟩)) rfl (by kernel_rfl) (by kernel_rfl) (by kernel_rfl) (fun _ _ _ h => h) (Or.inl ⟨by rfl, ?_⟩) hS0 ?_
            · intro w' hSw; go_simp
            refine wpAnyH_take (i := 6) (v := Value.string nm) rfl (by kernel_rfl) (by kernel_rfl) (by kernel_rfl) (fun _ _ _ h => h) (Or.inl ⟨by rfl, ?_⟩) hS0 ?_
            · intro w' hSw; go_simp
            refine wpAnyH_take (i := 7) (v := Value.pointer (some ⟨wr.heap.size, 1, none⟩)) rfl (by kernel_rfl) (by kernel_rfl) (by kernel_rfl) (fun _ _ _ h => h) (Or.inl ⟨by rfl, ?_⟩) hS0 ?_
            · intro w' hSw; go_simp
            refine wpAnyH_take (i := 8) (v := Value.string t) rfl (by kernel_rfl) (by kernel_rfl) (by kernel_rfl) (fun _ _ _ h => h) (Or.inl ⟨by rfl, ?_⟩) hS0 ?_
            · intro w' hSw; go_simp
            refine wpAnyH_take (i := 9) (v := Value.pointer (some ⟨wr.heap.size, 2, none⟩)) rfl (by kernel_rfl) (by kernel_rfl) (by kernel_rfl) (fun _ _ _ h => h) (Or.inl ⟨by rfl, ?_⟩) hS0 ?_
            · intro w' hSw; go_simp
            refine wpAnyH_take (i := 10) (v := Value.int .i64 0) rfl (by kernel_rfl) (by kernel_rfl) (by kernel_rfl) (fun _ _ _ h => h) (Or.inl ⟨by rfl, ?_⟩) hS0 ?_
            · intro w' hSw; go_simp
            refine wpAnyH_take (i := 11) (v := Value.int .i64 0) rfl (by kernel_rfl) (by kernel_rfl) (by kernel_rfl) (fun _ _ _ h => h) (Or.inl ⟨by rfl, ?_⟩) hS0 ?_
            · intro w' hSw; go_simp
            refine wpAnyH_take (i := 12) (v := Value.int .i64 0) rfl (by kernel_rfl) (by kernel_rfl) (by kernel_rfl) (fun _ _ _ h => h) (Or.inl ⟨by rfl, ?_⟩) hS0 ?_
            · intro w' hSw; have hw0 : IntKind.i64.wrap 0 = 0 := rfl; go_simp
            refine wpAnyH_take (i := 13) (v := Value.string ByteArray.empty) rfl (by kernel_rfl) (by kernel_rfl) (by kernel_rfl) (fun _ _ _ h => h) (Or.inl ⟨by rfl, ?_⟩) hS0 ?_
            · intro w' hSw; go_simp
            refine wpAnyH_take (i := 14) (v := Value.pointer (some ⟨wr.heap.size, 2, none⟩)) rfl (by kernel_rfl) (by kernel_rfl) (by kernel_rfl) (fun _ _ _ h => h) (Or.inl ⟨by rfl, ?_⟩) hS0 ?_
            · intro w' hSw; go_simp
            refine wpAnyH_take (i := 15) (v := Value.int .i64 0) rfl (by kernel_rfl) (by kernel_rfl) (by kernel_rfl) (fun _ _ _ h => h) (Or.inl ⟨by rfl, ?_⟩) hS0 ?_
            · intro w' hSw; go_simp
            refine wpAnyH_take (i := 16) (v := Value.int .i64 0) rfl (by kernel_rfl) (by kernel_rfl) (by kernel_rfl) (fun _ _ _ h => h) (Or.inl ⟨by rfl, ?_⟩) hS0 ?_
            · intro w' hSw; go_simp
            refine wpAnyH_take (i := 17) (v := Value.int .i64 0) rfl (by kernel_rfl) (by kernel_rfl) (by kernel_rfl) (fun _ _ _ h => h) (Or.inl ⟨by rfl, ?_⟩) hS0 ?_
            · intro w' hSw; have hw0 : IntKind.i64.wrap 0 = 0 := rfl; go_simp
            refine wpAnyH_take (i := 18) (v := Value.agg #[.string nm, .string ByteArray.empty, .int .i64 0, .bool true]) rfl (by kernel_rfl) (by kernel_rfl) (by kernel_rfl) (fun _ _ _ h => h) (Or.inl ⟨by rfl, ?_⟩) hS0 ?_
            · intro w' hSw; go_simp
            simp only [List.getElem_toArray, List.getElem_cons_succ, List.getElem_cons_zero, Act.put, List.setIfInBounds_toArray, List.set_cons_zero, List.set_cons_succ]
            refine wpAnyH_ready (rs := [19]) (by kernel_rfl) (by simp) ?_
            refine AllReadyH.cons rfl (fun K hK => ?_) AllReadyH.nil
            simp only [List.getElem_toArray, List.getElem_cons_succ, List.getElem_cons_zero]
            go_simp
            refine hK.out _ _ (HSS.out _ (HD.out.alloc _)) (fun _ => ?_)
            clear hK
            refine wpAnyH_ready (rs := [20]) (by kernel_rfl) (by simp) ?_
            refine AllReadyH.cons rfl (fun K hK => ?_) AllReadyH.nil
            simp only [List.getElem_toArray, List.getElem_cons_succ, List.getElem_cons_zero]
            rw [if_pos (by rfl)]
            refine op_append_at (.tmp 56) (.tmp 71) 59 rfl w.heap.size 63 i0 _ 4 48 Tryz.underlying59 hi hz0 hz1 hz2 rfl (by decide) (.slice ad' L.length cap') L.length (rcells L) rfl (HROW.out _ (HD.out.alloc _)).1 ⟨VA.drew.heap.size, 0, none⟩ 1 1 [.string nm, .string ByteArray.empty, .int .i64 0, .bool true] rfl rfl (HNA.out VA.drew) hoE.out (by unfold maxLen; omega) (by omega) (HROW.out _ (HD.out.alloc _)).2 fun v' w2 h2 h3 h4 => ?_
            obtain ⟨va, vc, rfl⟩ := owns_shape4 h2
            have HM := Lib.hid (TearR.more (e := (nm, ⟨ByteArray.empty, 0, true⟩)) HOUT.out.1 HOUT.out.2 (HVV.out.1.trans (HD.out.alloc _) (by simp)) h2 h3 h4)
            have hb2 : w2.heap[wr.heap.size]? = VA.heap[wr.heap.size]? := by
              rw [h3.block wr.heap.size (by have := HVV.out.2; simp; omega) (fun e => by have := owns_old HOUT.out.1.row _ e.symm; omega)]
              exact (HD.out.alloc _).block _ HVV.out.2 (by simp)
            refine hK.out _ _ ⟨HM.out.1.1, HRB.out w2 hb2⟩ (fun hS0 => ?_)
            clear hK h2 h3 h4 hb2
            obtain ⟨p1, p2⟩ := HM.out.1
            simp only [Act.put, List.setIfInBounds_toArray, List.set_cons_zero, List.set_cons_succ]
            refine wpAnyH_take (i := 21) (v := Value.pointer (some ⟨w.heap.size, 0, none⟩)) rfl (by kernel_rfl) (by kernel_rfl) (by kernel_rfl) (fun _ _ _ h => h) (Or.inl ⟨by rfl, ?_⟩) hS0 ?_
            · intro w' hSw; go_simp
            refine wpAnyH_take (i := 22) (v := Value.pointer (some ⟨w.heap.size, 1, none⟩)) rfl (by kernel_rfl) (by kernel_rfl) (by kernel_rfl) (fun _ _ _ h => h) (Or.inl ⟨by rfl, ?_⟩) hS0 ?_
            · intro w' hSw; go_simp
            simp only [List.getElem_toArray, List.getElem_cons_succ, List.getElem_cons_zero, Act.put, List.setIfInBounds_toArray, List.set_cons_zero, List.set_cons_succ]
            refine wpAnyH_done (by kernel_rfl) ?_ _
            rw [Exit.then]
            rw [if_pos (by rfl)]
            go_simp
            go_wp2_with fail
            go_roundw
            case rel => exact ⟨k + 1, by omega, by go_num, Lib.hid (by rw [HTS.out]; exact HM.out.2)⟩
            case measure => simp [intOf]; omega
        · have hzi : ¬ (sN : Int) = 0 := by omega
          go_wp2_with fail
          have HTS : Hid (tRolls (l.take (k + 1)) n = tRolls (l.take k) n ++ [(nm, ⟨(t.extract 0 sN), sN, true⟩)]) := Lib.hid (by rw [HTK.out, if_pos (by exact .inl (by omega))])
          clear HTK
          generalize tRolls (l.take k) n = L at *
          obtain ⟨VA, hVA⟩ : ∃ VA, wr.alloc (.cells #[.string nm, .string t, .int .i64 (sN : Nat), .bool s] 63) = VA := ⟨_, rfl⟩
          have hDw : w.heap.size < wr.heap.size := World.block_lt_of_cell? wr _ o0
          have hOV : Only [] wr VA := by rw [← hVA]; exact (Only.refl [] wr).alloc _
          have hAb : VA.heap[wr.heap.size]? = some (.cells #[.string nm, .string t, .int .i64 (sN : Nat), .bool s] 63 (0, 0)) := by rw [← hVA]; exact heap_alloc_new wr _
          have hAl : wr.heap.size < VA.heap.size := by rw [← hVA]; simp
          rw [hVA]
          clear hVA
          have HRB : Hid (∀ W : World, W.heap[wr.heap.size]? = VA.heap[wr.heap.size]? → W.cell? ⟨wr.heap.size, 0, none⟩ = some (.string nm) ∧ W.cell? ⟨wr.heap.size, 1, none⟩ = some (.string t) ∧ W.cell? ⟨wr.heap.size, 2, none⟩ = some (.int .i64 (sN : Nat))) := Lib.hid (by
            intro W hW
            rw [hAb] at hW
            refine ⟨?_, ?_, ?_⟩
            · rw [cell_of_row W wr.heap.size 0 _ _ _ hW]; rfl
            · rw [cell_of_row W wr.heap.size 1 _ _ _ hW]; rfl
            · rw [cell_of_row W wr.heap.size 2 _ _ _ hW]; rfl)
          have HSS : Hid (∀ W, Only [] VA W → (fun W => W.cell? ⟨w.heap.size, 1, none⟩ = some (.slice ad' L.length cap') ∧ W.cell? ⟨wr.heap.size, 0, none⟩ = some (.string nm) ∧ W.cell? ⟨wr.heap.size, 1, none⟩ = some (.string t) ∧ W.cell? ⟨wr.heap.size, 2, none⟩ = some (.int .i64 (sN : Nat))) W) := Lib.hid (fun W hW => ⟨(HOUT.out.1.kept (hOV.trans hW (by simp))).c1, HRB.out W (hW.block _ hAl (by simp))⟩)
          have HVV := Lib.hid (And.intro hOV hAl)
          have hoE : Hid (∀ u ∈ ([.string nm, .string (t.extract 0 sN), .int .i64 (sN : Nat), .bool true] : List Value), u.oneCell' = true) := Lib.hid (by intro u hu; simp at hu; rcases hu with rfl | rfl | rfl | rfl <;> rfl)
          have HNA : Hid (∀ W : World, ∀ j u, ([.string nm, .string (t.extract 0 sN), .int .i64 (sN : Nat), .bool true] : List Value)[j]? = some u → (W.alloc (.cells #[.string nm, .string (t.extract 0 sN), .int .i64 (sN : Nat), .bool true] 63)).cell? ((⟨W.heap.size, 0, none⟩ : Addr).add j) = some u) := Lib.hid (fun W => World.news_of_block (cs := #[.string nm, .string (t.extract 0 sN), .int .i64 (sN : Nat), .bool true]) (heap_alloc_new W _))
          have HD : Hid (Only [] VA VA.drew) := Lib.hid (Only.refl [] VA).drew
          have HROW : Hid (∀ W, Only [] VA W → W.ownsRow w.heap.size 63 4 (.slice ad' L.length cap') L.length (rcells L) ∧ w.heap.size ≤ W.heap.size) := Lib.hid (fun W hW => ⟨(HOUT.out.1.kept (HVV.out.1.trans hW (by simp))).row, Nat.le_trans (Nat.le_of_lt hDw) (Nat.le_trans HVV.out.1.size hW.size)⟩)
          clear hAb hOV hAl o0 o1 o2 o3
          have hS0 := HSS.out _ HD.out
          refine wp_region_last (S := fun W => W.cell? ⟨w.heap.size, 1, none⟩ = some (.slice ad' L.length cap') ∧ W.cell? ⟨wr.heap.size, 0, none⟩ = some (.string nm) ∧ W.cell? ⟨wr.heap.size, 1, none⟩ = some (.string t) ∧ W.cell? ⟨wr.heap.size, 2, none⟩ = some (.int .i64 (sN : Nat))) (by kernel_rfl) (ops := List.toArray [_, _, _, _, _, _, _, _, _, _, _, _, _, _, _, _, _, _, _, _, _, _, _]) (o := _) rfl (by kernel_rfl) ?_
          refine wpAnyH_take (i := 0) (v := Value.pointer (some ⟨w.heap.size, 0, none⟩)) rfl (by kernel_rfl) (by kernel_rfl) (by kernel_rfl) (fun _ _ _ h => h) (Or.inl ⟨by rfl, ?_⟩) hS0 ?_
          · intro w' hSw; go_simp
          refine wpAnyH_take (i := 1) (v := Value.pointer (some ⟨w.heap.size, 0, none⟩)) rfl (by kernel_rfl) (by kernel_rfl) (by kernel_rfl) (fun _ _ _ h => h) (Or.inl ⟨by rfl, ?_⟩) hS0 ?_
          · intro w' hSw; go_simp
          refine wpAnyH_take (i := 2) (v := Value.pointer (some ⟨w.heap.size, 0, none⟩)) rfl (by kernel_rfl) (by kernel_rfl) (by kernel_rfl) (fun _ _ _ h => h) (Or.inl ⟨by rfl, ?_⟩) hS0 ?_
          · intro w' hSw; go_simp
          refine wpAnyH_take (i := 3) (v := Value.pointer (some ⟨w.heap.size, 1, none⟩)) rfl (by kernel_rfl) (by kernel_rfl) (by kernel_rfl) (fun _ _ _ h => h) (Or.inl ⟨by rfl, ?_⟩) hS0 ?_
          · intro w' hSw; go_simp
          refine wpAnyH_take (i := 4) (v := Value.slice ad' L.length cap') rfl (by kernel_rfl) (by kernel_rfl) (by kernel_rfl) (fun _ _ _ h => h) (Or.inl ⟨by rfl, ?_⟩) hS0 ?_
          · intro w' hSw; go_simp
          refine wpAnyH_take (i := 5) (v := Value.pointer (some ⟨wr.heap.size, 0, none⟩)) rfl (by kernel_rfl) (by kernel_rfl) (by kernel_rfl) (fun _ _ _ h => h) (Or.inl ⟨by rfl, ?_⟩) hS0 ?_
          · intro w' hSw; go_simp
          refine wpAnyH_take (i := 6) (v := Value.string nm) rfl (by kernel_rfl) (by kernel_rfl) (by kernel_rfl) (fun _ _ _ h => h) (Or.inl ⟨by rfl, ?_⟩) hS0 ?_
          · intro w' hSw; go_simp
          refine wpAnyH_take (i := 7) (v := Value.pointer (some ⟨wr.heap.size, 1, none⟩)) rfl (by kernel_rfl) (by kernel_rfl) (by kernel_rfl) (fun _ _ _ h => h) (Or.inl ⟨by rfl, ?_⟩) hS0 ?_
          · intro w' hSw; go_simp
          refine wpAnyH_take (i := 8) (v := Value.string t) rfl (by kernel_rfl) (by kernel_rfl) (by kernel_rfl) (fun _ _ _ h => h) (Or.inl ⟨by rfl, ?_⟩) hS0 ?_
          · intro w' hSw; go_simp
          refine wpAnyH_take (i := 9) (v := Value.pointer (some ⟨wr.heap.size, 2, none⟩)) rfl (by kernel_rfl) (by kernel_rfl) (by kernel_rfl) (fun _ _ _ h => h) (Or.inl ⟨by rfl, ?_⟩) hS0 ?_
          · intro w' hSw; go_simp
          refine wpAnyH_take (i := 10) (v := Value.int .i64 (sN : Nat)) rfl (by kernel_rfl) (by kernel_rfl) (by kernel_rfl) (fun _ _ _ h => h) (Or.inl ⟨by rfl, ?_⟩) hS0 ?_
          · intro w' hSw; go_simp
          refine wpAnyH_take (i := 11) (v := Value.int .i64 0) rfl (by kernel_rfl) (by kernel_rfl) (by kernel_rfl) (fun _ _ _ h => h) (Or.inl ⟨by rfl, ?_⟩) hS0 ?_
          · intro w' hSw; go_simp
          refine wpAnyH_take (i := 12) (v := Value.int .i64 (sN : Nat)) rfl (by kernel_rfl) (by kernel_rfl) (by kernel_rfl) (fun _ _ _ h => h) (Or.inl ⟨by rfl, ?_⟩) hS0 ?_
          · intro w' hSw; have hw2 : IntKind.i64.wrap (sN : Int) = sN := IntWalk.i64_in _ (by omega); go_simp
          refine wpAnyH_take (i := 13) (v := Value.string (t.extract 0 sN)) rfl (by kernel_rfl) (by kernel_rfl) (by kernel_rfl) (fun _ _ _ h => h) (Or.inl ⟨by rfl, ?_⟩) hS0 ?_
          · intro w' hSw; go_simp
          refine wpAnyH_take (i := 14) (v := Value.pointer (some ⟨wr.heap.size, 2, none⟩)) rfl (by kernel_rfl) (by kernel_rfl) (by kernel_rfl) (fun _ _ _ h => h) (Or.inl ⟨by rfl, ?_⟩) hS0 ?_
          · intro w' hSw; go_simp
          refine wpAnyH_take (i := 15) (v := Value.int .i64 (sN : Nat)) rfl (by kernel_rfl) (by kernel_rfl) (by kernel_rfl) (fun _ _ _ h => h) (Or.inl ⟨by rfl, ?_⟩) hS0 ?_
          · intro w' hSw; go_simp
          refine wpAnyH_take (i := 16) (v := Value.int .i64 0) rfl (by kernel_rfl) (by kernel_rfl) (by kernel_rfl) (fun _ _ _ h => h) (Or.inl ⟨by rfl, ?_⟩) hS0 ?_
          · intro w' hSw; go_simp
          refine wpAnyH_take (i := 17) (v := Value.int .i64 (sN : Nat)) rfl (by kernel_rfl) (by kernel_rfl) (by kernel_rfl) (fun _ _ _ h => h) (Or.inl ⟨by rfl, ?_⟩) hS0 ?_
          · intro w' hSw; have hw2 : IntKind.i64.wrap (sN : Int) = sN := IntWalk.i64_in _ (by omega); go_simp
          refine wpAnyH_take (i := 18) (v := Value.agg #[.string nm, .string (t.extract 0 sN), .int .i64 (sN : Nat), .bool true]) rfl (by kernel_rfl) (by kernel_rfl) (by kernel_rfl) (fun _ _ _ h => h) (Or.inl ⟨by rfl, ?_⟩) hS0 ?_
          · intro w' hSw; go_simp
          simp only [List.getElem_toArray, List.getElem_cons_succ, List.getElem_cons_zero, Act.put, List.setIfInBounds_toArray, List.set_cons_zero, List.set_cons_succ]
          refine wpAnyH_ready (rs := [19]) (by kernel_rfl) (by simp) ?_
          refine AllReadyH.cons rfl (fun K hK => ?_) AllReadyH.nil
          simp only [List.getElem_toArray, List.getElem_cons_succ, List.getElem_cons_zero]
          go_simp
          refine hK.out _ _ (HSS.out _ (HD.out.alloc _)) (fun _ => ?_)
          clear hK
          refine wpAnyH_ready (rs := [20]) (by kernel_rfl) (by simp) ?_
          refine AllReadyH.cons rfl (fun K hK => ?_) AllReadyH.nil
          simp only [List.getElem_toArray, List.getElem_cons_succ, List.getElem_cons_zero]
          rw [if_pos (by rfl)]
          refine op_append_at (.tmp 56) (.tmp 71) 59 rfl w.heap.size 63 i0 _ 4 48 Tryz.underlying59 hi hz0 hz1 hz2 rfl (by decide) (.slice ad' L.length cap') L.length (rcells L) rfl (HROW.out _ (HD.out.alloc _)).1 ⟨VA.drew.heap.size, 0, none⟩ 1 1 [.string nm, .string (t.extract 0 sN), .int .i64 (sN : Nat), .bool true] rfl rfl (HNA.out VA.drew) hoE.out (by unfold maxLen; omega) (by omega) (HROW.out _ (HD.out.alloc _)).2 fun v' w2 h2 h3 h4 => ?_
          obtain ⟨va, vc, rfl⟩ := owns_shape4 h2
          have HM := Lib.hid (TearR.more (e := (nm, ⟨(t.extract 0 sN), sN, true⟩)) HOUT.out.1 HOUT.out.2 (HVV.out.1.trans (HD.out.alloc _) (by simp)) h2 h3 h4)
          have hb2 : w2.heap[wr.heap.size]? = VA.heap[wr.heap.size]? := by
            rw [h3.block wr.heap.size (by have := HVV.out.2; simp; omega) (fun e => by have := owns_old HOUT.out.1.row _ e.symm; omega)]
            exact (HD.out.alloc _).block _ HVV.out.2 (by simp)
          refine hK.out _ _ ⟨HM.out.1.1, HRB.out w2 hb2⟩ (fun hS0 => ?_)
          clear hK h2 h3 h4 hb2
          obtain ⟨p1, p2⟩ := HM.out.1
          simp only [Act.put, List.setIfInBounds_toArray, List.set_cons_zero, List.set_cons_succ]
          refine wpAnyH_take (i := 21) (v := Value.pointer (some ⟨w.heap.size, 0, none⟩)) rfl (by kernel_rfl) (by kernel_rfl) (by kernel_rfl) (fun _ _ _ h => h) (Or.inl ⟨by rfl, ?_⟩) hS0 ?_
          · intro w' hSw; go_simp
          refine wpAnyH_take (i := 22) (v := Value.pointer (some ⟨w.heap.size, 1, none⟩)) rfl (by kernel_rfl) (by kernel_rfl) (by kernel_rfl) (fun _ _ _ h => h) (Or.inl ⟨by rfl, ?_⟩) hS0 ?_
          · intro w' hSw; go_simp
          simp only [List.getElem_toArray, List.getElem_cons_succ, List.getElem_cons_zero, Act.put, List.setIfInBounds_toArray, List.set_cons_zero, List.set_cons_succ]
          refine wpAnyH_done (by kernel_rfl) ?_ _
          rw [Exit.then]
          rw [if_pos (by rfl)]
          go_simp
          go_wp2_with fail
          go_roundw
          case rel => exact ⟨k + 1, by omega, by go_num, Lib.hid (by rw [HTS.out]; exact HM.out.2)⟩
          case measure => simp [intOf]; omega
    · have hge : k = l.length := by omega
      have hS := HS.out
      rw [hge, List.take_length] at hS
      have HE := Lib.hid hS
      clear hS
      subst hge
      go_wp2_with fail
      go_ret
      exact ⟨rfl, HE.out⟩

end Go.Proofs.YtaekieoingflaaaGreatDoor

namespace Go.Proofs.YtaekieoingflaaaGreatDoor
open Go.RowKit Go.Maps Go.Proofs.MapD Go.Proofs.Chest

/-- The reference's chest, as something that lies in memory. -/
def rch (c z : Nat) (l : Rolls) : It where
  p w F := ∃ ad cap, RC w 0 c z ad cap l ∧ F = c :: (ad.map (·.block)).toList
  kept := fun ⟨ad, cap, h, e⟩ hk => ⟨ad, cap, h.far (hk c (by simp [e])) (fun g e' => hk g (by simp [e, e'])), e⟩
  lt := fun {w F} ⟨ad, cap, h, e⟩ k hk => by
    rw [e] at hk
    rcases List.mem_cons.1 hk with rfl | hk
    · exact World.block_lt_of_cell? w _ h.c0
    · rcases h.shape with ⟨rfl, _⟩ | ⟨g, rfl⟩
      · cases hk
      · obtain rfl : k = g := by simpa using hk
        exact owns_old h.row k rfl

/-- A block, as something that lies in memory. -/
def bx (A : Nat) (o : Obj) : It where
  p w F := w.heap[A]? = some o ∧ F = [A]
  kept := fun ⟨h, e⟩ hk => ⟨by rw [hk A (by simp [e])]; exact h, e⟩
  lt := fun {w F} ⟨h, e⟩ k hk => by
    rw [e] at hk
    obtain rfl := List.mem_singleton.1 hk
    exact (Array.getElem?_eq_some_iff.1 h).1

theorem rt_turn {c z : Nat} {ad : Option Addr} {w w' : World} {l' : Rolls} (h : RT c z ad w l' w') {F : List Nat} (eF : F = c :: (ad.map (·.block)).toList) :
    ∃ F', (rch c z l').p w' F' ∧ (∀ k ∈ F', k ∈ F ∨ w.heap.size ≤ k) ∧ Only F w w' := by
  obtain ⟨ad', cap', h1, h2, h3⟩ := h
  refine ⟨_, ⟨ad', cap', h1, rfl⟩, fun k hk => ?_, by rw [eF]; exact h2⟩
  rw [eF]
  rcases List.mem_cons.1 hk with rfl | hk
  · exact .inl (by simp)
  · rcases h1.shape with ⟨rfl, _⟩ | ⟨g, rfl⟩
    · cases hk
    · obtain rfl : k = g := by simpa using hk
      rcases h3 k 0 rfl with h4 | h4
      · exact .inl (by simp [h4])
      · exact .inr h4

theorem RC.base0 {w : World} {B c z cap : Nat} {ad : Option Addr} {l : Rolls} (h : RC w B c z ad cap l) : RC w 0 c z ad cap l :=
  ⟨h.c0, h.c1, h.f0, h.f1, ownsRow_base_a h.row (Nat.zero_le _), h.apart, Nat.zero_le _⟩

section
variable {w0 w : World} {L : List It} {c z : Nat} {l : Rolls}

theorem r_new (r : Int) (h : Sp w0 w L) :
    Calls Tryz.prog 9 #[.int .i64 r] w fun e w' => ∃ c, e = .returned (.pointer (some ⟨c, 0, none⟩)) ∧ Sp w0 w' (rch c (min (max r 0) 1048576).toNat [] :: L) :=
  (rnew_c r w).mono fun _ _ ⟨h1, h2, h3⟩ => ⟨_, h1, h.new h3 ⟨[w.heap.size], ⟨none, 0, h2.base0, rfl⟩, by simp⟩⟩

theorem r_write (h : Sp w0 w (rch c z l :: L)) (ht : total l ≤ z) (hz : z ≤ 1048576) (hn : l.length ≤ 900000) (n s : ByteArray) (hns : n.size ≤ 1000000) :
    Calls Tryz.prog 29 #[.pointer (some ⟨c, 0, none⟩), .string n, .string s] w fun e w' => e = .returned (.int .i64 (rwriteS z l n s).1) ∧ Sp w0 w' (rch c z (rwriteS z l n s).2 :: L) := by
  obtain ⟨F, ⟨ad, cap, h1, eF⟩, _, k⟩ := h.turn
  exact (rwrite_p h1 ht hz hn n s hns).mono fun _ w' ⟨h2, h3⟩ => ⟨h2, k _ w' (rt_turn h3 eF)⟩

theorem r_press (h : Sp w0 w (rch c z l :: L)) (hn : l.length ≤ 900000) (n : ByteArray) :
    Calls Tryz.prog 30 #[.pointer (some ⟨c, 0, none⟩), .string n] w fun e w' => e = .returned (.int .i64 (rpressS l n).1) ∧ Sp w0 w' (rch c z (rpressS l n).2 :: L) := by
  obtain ⟨F, ⟨ad, cap, h1, eF⟩, _, k⟩ := h.turn
  exact (rpress_p2 h1 n (by omega)).mono fun _ w' ⟨h2, h3⟩ => ⟨h2, k _ w' (rt_turn h3 eF)⟩

theorem r_cut (h : Sp w0 w (rch c z l :: L)) (hn : l.length ≤ 900000) (n : ByteArray) (m : Int) :
    Calls Tryz.prog 31 #[.pointer (some ⟨c, 0, none⟩), .string n, .int .i64 m] w fun e w' => e = .returned (.int .i64 (rcutS l n m).1) ∧ Sp w0 w' (rch c z (rcutS l n m).2 :: L) := by
  obtain ⟨F, ⟨ad, cap, h1, eF⟩, _, k⟩ := h.turn
  exact (rcut_p2 h1 n m (by omega)).mono fun _ w' ⟨h2, h3⟩ => ⟨h2, k _ w' (rt_turn h3 eF)⟩

theorem r_call (h : Sp w0 w (rch c z l :: L)) (hn : l.length ≤ 900000) (f t : ByteArray) (hf : f.size ≤ 1000000) (ht : t.size ≤ 1000000) :
    Calls Tryz.prog 32 #[.pointer (some ⟨c, 0, none⟩), .string f, .string t] w fun e w' => e = .returned (.int .i64 (rcallS l f t).1) ∧ Sp w0 w' (rch c z (rcallS l f t).2 :: L) := by
  obtain ⟨F, ⟨ad, cap, h1, eF⟩, _, k⟩ := h.turn
  exact (rcall_p2 h1 f t hn hf ht).mono fun _ w' ⟨h2, h3⟩ => ⟨h2, k _ w' (rt_turn h3 eF)⟩

theorem r_tear (h : Sp w0 w (rch c z l :: L)) (hp : ∀ e ∈ l, e.2.p ≤ e.2.t.size) (ht : total l ≤ 1048576) (hn : l.length ≤ 900000) (n : Int) :
    Calls Tryz.prog 13 #[.pointer (some ⟨c, 0, none⟩), .int .i64 n] w fun e w' => ∃ d, e = .returned (.pointer (some ⟨d, 0, none⟩)) ∧ Sp w0 w' (rch d z (tRolls l n) :: rch c z l :: L) := by
  obtain ⟨F, ⟨ad, cap, h1, _⟩, _, _⟩ := h.turn
  refine (rtear_p2 h1 hp ht hn n).mono fun e w' ⟨h2, ad', cap', h3, h4⟩ => ⟨_, h2, h.new h4 ⟨_, ⟨ad', cap', h3.base0, rfl⟩, fun k hk => ?_⟩⟩
  rcases List.mem_cons.1 hk with rfl | hk
  · exact Nat.le_refl _
  · rcases h3.shape with ⟨rfl, _⟩ | ⟨g, rfl⟩
    · cases hk
    · obtain rfl : k = g := by simpa using hk
      rcases h3.row.2 with ⟨h0, _⟩ | ⟨g', cap', cur, hv, hb, _⟩
      · cases h0
      · cases hv
        exact hb

theorem r_room (h : Sp w0 w (rch c z l :: L)) (ht : total l ≤ z) (hz : z ≤ 1048576) (hn : l.length ≤ 900000) :
    Calls Tryz.prog 34 #[.pointer (some ⟨c, 0, none⟩)] w fun e w' => e = .returned (.int .i64 ((z : Int) - (total l : Nat))) ∧ w = w' := by
  obtain ⟨F, ⟨ad, cap, h1, _⟩, _, _⟩ := h.turn
  exact rroom_c h1 ht hz (by omega)

end

section
variable {w0 w : World} {L : List It} {c : Nat} {st : St}

theorem c_write (h : Sp w0 w (ch c st :: L)) (hL : st.l.length ≤ 1000000) (n s : ByteArray) (hn : n.size ≤ 1000000) :
    Calls Tryz.prog 19 #[.pointer (some ⟨c, 0, none⟩), .string n, .string s] w fun e w' => e = .returned (.int .i64 (write st n s).1) ∧ Sp w0 w' (ch c (write st n s).2 :: L) := by
  obtain ⟨F, h1, _, k⟩ := h.turn
  exact (write_p h1 hL n s hn).mono fun _ w' ⟨h2, h3⟩ => ⟨h2, k (ch c (write st n s).2) w' h3⟩

theorem c_press (h : Sp w0 w (ch c st :: L)) (n : ByteArray) (hn : n.size ≤ 1000000) :
    Calls Tryz.prog 23 #[.pointer (some ⟨c, 0, none⟩), .string n] w fun e w' => e = .returned (.int .i64 (press st n).1) ∧ Sp w0 w' (ch c (press st n).2 :: L) := by
  obtain ⟨F, h1, _, k⟩ := h.turn
  exact (rpress_p h1 n hn).mono fun _ w' ⟨h2, h3⟩ => ⟨h2, k (ch c (press st n).2) w' h3⟩

theorem c_cut (h : Sp w0 w (ch c st :: L)) (n : ByteArray) (hn : n.size ≤ 1000000) (m : Int) :
    Calls Tryz.prog 24 #[.pointer (some ⟨c, 0, none⟩), .string n, .int .i64 m] w fun e w' => e = .returned (.int .i64 (cut st n m).1) ∧ Sp w0 w' (ch c (cut st n m).2 :: L) := by
  obtain ⟨F, h1, _, k⟩ := h.turn
  exact (rcut_p h1 n hn m).mono fun _ w' ⟨h2, h3⟩ => ⟨h2, k (ch c (cut st n m).2) w' h3⟩

theorem c_call (h : Sp w0 w (ch c st :: L)) (hL : st.l.length ≤ 1000000) (f t : ByteArray) (hf : f.size ≤ 1000000) (ht : t.size ≤ 1000000) :
    Calls Tryz.prog 25 #[.pointer (some ⟨c, 0, none⟩), .string f, .string t] w fun e w' => e = .returned (.int .i64 (call st f t).1) ∧ Sp w0 w' (ch c (call st f t).2 :: L) := by
  obtain ⟨F, h1, _, k⟩ := h.turn
  exact (rcall_p h1 hL f t hf ht).mono fun _ w' ⟨h2, h3⟩ => ⟨h2, k (ch c (call st f t).2) w' h3⟩

theorem c_tear (h : Sp w0 w (ch c st :: L)) (hL : st.l.length ≤ 1000000) (n : Int) :
    Calls Tryz.prog 12 #[.pointer (some ⟨c, 0, none⟩), .int .i64 n] w fun x w' => ∃ d, x = .returned (.pointer (some ⟨d, 0, none⟩)) ∧ Sp w0 w' (ch d (tear st n) :: ch c st :: L) := by
  obtain ⟨F, h1⟩ := h.get
  exact (rtear_p h1 hL n).mono fun x w' ⟨h4, F', h5, h6, h7⟩ => ⟨_, h4, h.new h7 ⟨F', h5, h6⟩⟩

theorem c_new (room : Int) (h : Sp w0 w L) :
    Calls Tryz.prog 8 #[.int .i64 room] w fun x w' => ∃ c, x = .returned (.pointer (some ⟨c, 0, none⟩)) ∧ Sp w0 w' (ch c ⟨(min (max room 0) 1048576).toNat, []⟩ :: L) := by
  refine (new_c room (Below.refl w.heap.size w)).mono ?_
  rintro x w' ⟨c, h1, ⟨F, h2, h3⟩, h4⟩
  exact ⟨c, h1, h.new h4 ⟨F, h2, h3⟩⟩

theorem c_read (h : Sp w0 w (ch c st :: L)) (n : ByteArray) (hn : n.size ≤ 1000000) :
    Calls Tryz.prog 16 #[.pointer (some ⟨c, 0, none⟩), .string n] w fun x w' => x = .returned (.tuple #[.string (readS st n).1, .bool (readS st n).2]) ∧ w = w' := by
  obtain ⟨F, h1⟩ := h.get
  exact rread_p h1 n hn

theorem c_pressed (h : Sp w0 w (ch c st :: L)) (n : ByteArray) (hn : n.size ≤ 1000000) :
    Calls Tryz.prog 27 #[.pointer (some ⟨c, 0, none⟩), .string n] w fun x w' => x = .returned (.int .i64 (pressedS st n)) ∧ w = w' := by
  obtain ⟨F, h1⟩ := h.get
  exact rpressed_p h1 n hn

theorem c_room (h : Sp w0 w (ch c st :: L)) :
    Calls Tryz.prog 28 #[.pointer (some ⟨c, 0, none⟩)] w fun x w' => x = .returned (.int .i64 st.room) ∧ w = w' := by
  obtain ⟨F, h1⟩ := h.get
  exact rroom_p h1

end
end Go.Proofs.YtaekieoingflaaaGreatDoor

namespace Go.Proofs.YtaekieoingflaaaGreatDoor
open Go.RowKit Go.Maps Go.Proofs.MapD Go.Proofs.Chest

theorem sorted_names {l : Rolls} (hs : Srt l) {ss : List (List UInt8)} (hp : ss.Perm (l.map fun e => e.1.data.toList)) : sorted ss = l.map fun e => e.1.data.toList := by
  have h1 : (sorted ss).Perm (l.map fun e => e.1.data.toList) := (List.mergeSort_perm ss _).trans hp
  have h2 : (sorted ss).Pairwise (fun a b => a ≤ b) := by
    have := List.pairwise_mergeSort (le := fun x y : List UInt8 => decide (x ≤ y)) (fun a b c h1 h2 => by
      simp only [decide_eq_true_eq] at *
      exact List.le_trans h1 h2) (fun a b => by
      simp only [Bool.or_eq_true, decide_eq_true_eq]
      exact List.le_total a b) ss
    refine this.imp fun h => ?_
    simpa using h
  have h3 : (l.map fun e => e.1.data.toList).Pairwise (fun a b => a ≤ b) := by
    rw [List.pairwise_map]
    exact List.Pairwise.imp (fun {a b} h => List.le_of_lt ((blt_iff a.1 b.1).1 h)) hs
  exact List.Perm.eq_of_pairwise (le := fun a b : List UInt8 => a ≤ b) (fun a b _ _ x y => List.le_antisymm x y) h2 h3 h1

theorem at_get {l : Rolls} (hs : Srt l) {k : Nat} (hk : k < l.length) : Chest.get l l[k].1 = some l[k].2 := (get_mem hs.once _ _).2 (List.getElem_mem hk)

theorem name_cells {w : World} {B cap : Nat} {ad : Option Addr} {l : Rolls} {ss : List (List UInt8)} (h : w.ownsRow B 9 1 (.slice ad ss.length cap) ss.length ((sorted ss).map encStr)) (hs : sorted ss = l.map fun e => e.1.data.toList) (hl : ss.length = l.length) {k : Nat} (hk : k < l.length) :
    ∃ g, ad = some ⟨g, 0, none⟩ ∧ l.length ≤ cap ∧ w.cell? ⟨g, k, none⟩ = some (.string l[k].1) := by
  rcases h.2 with ⟨h0, h1⟩ | ⟨g, cap', cur, hv, _, _, hn, hm, _⟩
  · omega
  · cases hv
    have hc := h.cells (g := g) rfl k (.string l[k].1) (by
      rw [hs, List.map_map, List.getElem?_map, List.getElem?_eq_getElem hk]
      rfl)
    refine ⟨g, rfl, by omega, ?_⟩
    rw [add_flat, Nat.zero_add] at hc
    exact hc

set_option maxRecDepth 100000 in
set_option maxHeartbeats 8000000 in
theorem same_p {w0 w : World} {L : List It} {c d z : Nat} {st : St} {l : Rolls} (h : Sp w0 w (ch c st :: rch d z l :: L)) (hk : Like z st l) (hz : z ≤ 1048576) (hn : l.length ≤ 900000) :
    Calls Tryz.prog 11 #[.pointer (some ⟨c, 0, none⟩), .pointer (some ⟨d, 0, none⟩)] w fun e w' => e = .returned (.bool true) ∧ Below w.heap.size w w' := by
  have hlen := hk.len
  have htot := hk.total
  have hroom := hk.room
  have NM := Lib.hid (by obtain ⟨F, h1⟩ := h.get; exact rnames_p h1 (by omega))
  have H := Lib.hid h
  have HK := Lib.hid hk
  clear h hk
  go_enter Tryz.func11, Tryz.ntmps11
  go_wp2_with fail
  refine NM.out.mono ?_
  rintro _ w1 ⟨ad, cap, ss, rfl, hp, hrow, hb⟩
  have hp2 : ss.Perm (l.map fun e => e.1.data.toList) := hp.trans (HK.out.perm.map _).symm
  have hsl : ss.length = l.length := by rw [hp2.length_eq, List.length_map]
  have HC1 : Hid (∀ W, Only [] w1 W → ∀ k (hk : k < l.length), ∃ g, ad = some ⟨g, 0, none⟩ ∧ l.length ≤ cap ∧ W.cell? ⟨g, k, none⟩ = some (.string l[k].1)) := Lib.hid (fun W hW k hk => by
    obtain ⟨g, h1, h2, h3⟩ := name_cells hrow (sorted_names HK.out.srt hp2) hsl hk
    refine ⟨g, h1, h2, ?_⟩
    rw [cell_of_block (hW.block g (World.block_lt_of_cell? w1 _ h3) (by simp))]
    exact h3)
  have H1 := Lib.hid (H.out.below hb)
  have HB := Lib.hid hb
  obtain ⟨F2, ad2, cap2, hr, _⟩ := H1.out.swap.get
  have HR := Lib.hid hr
  have RM1 := Lib.hid (c_room H1.out)
  have RM2 : Hid (Calls Tryz.prog 34 #[.pointer (some ⟨d, 0, none⟩)] w1 fun e w' => e = .returned (.int .i64 (st.room : Int)) ∧ w1 = w') := Lib.hid (by
    have := r_room H1.out.swap (by omega) hz hn
    rw [show (z : Int) - (total l : Nat) = (st.room : Int) by omega] at this
    exact this)
  rw [hsl]
  have hc1 := hr.c1
  obtain ⟨N, hN⟩ : ∃ N, l.length = N := ⟨_, rfl⟩
  rw [hN] at hc1 ⊢
  have HN := Lib.hid hN
  clear hp hrow hb hr hp2 hsl hlen htot hroom
  go_wp2_with (first
    | (go_at_call 28; refine RM1.out.mono ?_; rintro _ _ ⟨rfl, rfl⟩)
    | (go_at_call 34; refine RM2.out.mono ?_; rintro _ _ ⟨rfl, rfl⟩))
  go_loopw [6] (fun iv wr => ∃ k : Nat, k ≤ N ∧ iv = .int .i64 k ∧ Hid (Only [] w1 wr)) (fun iv _ => N - (intOf iv).toNat)
  case atStart => exact ⟨0, by omega, rfl, Lib.hid (Only.refl [] w1)⟩
  case round =>
    obtain ⟨k, hkN, rfl, HW⟩ := hrel
    by_cases hlt : k < N
    · have hkl : k < l.length := by omega
      obtain ⟨g1, rfl, hcap, e1⟩ := HC1.out _ HW.out k hkl
      have hRW := HR.out.kept HW.out
      obtain ⟨g2, rfl, hcap2, hcm2, r0, r1, r2, r3⟩ := hRW.at hkl
      have hd1 := hRW.c1
      have hnm : l[k].1.size ≤ 1000000 := by
        have h1 := HK.out.wf.names l[k] (HK.out.perm.mem_iff.1 (List.getElem_mem hkl))
        unfold okName at h1
        simp only [Bool.and_eq_true, decide_eq_true_eq] at h1
        omega
      have hget : Chest.get st.l l[k].1 = some l[k].2 := by rw [HK.out.get]; exact at_get HK.out.srt hkl
      have RD := c_read (H1.out.below HW.out.to_below) l[k].1 hnm
      have PR := fun (W : World) (hW : Only [] w1 W) => c_pressed (H1.out.below hW.to_below) l[k].1 hnm
      rw [show readS st l[k].1 = (l[k].2.t, true) by unfold readS; rw [hget]] at RD
      rw [show pressedS st l[k].1 = l[k].2.p by unfold pressedS; rw [hget]] at PR
      obtain ⟨⟨nm, t, p, s⟩, he⟩ : ∃ e : ByteArray × Rl, l[k] = e := ⟨_, rfl⟩
      rw [he] at e1 r0 r1 r2 r3 RD PR
      simp only at e1 r0 r1 r2 r3 RD PR
      rw [hN] at hcap hcap2 hd1
      have HRD := Lib.hid RD
      have HPR := Lib.hid PR
      have hlt' : (k : Int) < (N : Int) := by omega
      clear RD PR he hRW hget hnm hc1
      go_wp2_with fail
      refine HRD.out.mono ?_
      rintro _ _ ⟨rfl, rfl⟩
      go_wp2_with fail
      have hk0 : (0 : Int) ≤ (k : Int) := by omega
      go_region_held3 (fun W => W.cell? ⟨g1, k, none⟩ = some (.string nm) ∧ W.cell? ⟨d, 1, none⟩ = some (.slice (some ⟨g2, 0, none⟩) N cap2) ∧ W.cell? ⟨g2, k * 4, none⟩ = some (.string nm) ∧ W.cell? ⟨g2, k * 4 + 1, none⟩ = some (.string t) ∧ W.cell? ⟨g2, k * 4 + 2, none⟩ = some (.int .i64 p)) (go_keep) (first
        | (go_at_call 27; refine (HPR.out _ HW.out.drew).mono ?_; rintro _ _ ⟨rfl, rfl⟩))
      go_wp2_with fail
      go_roundw
      case rel => exact ⟨k + 1, by omega, by go_num, Lib.hid HW.out.drew⟩
      case measure => simp [intOf]; omega
    · have hge : k = N := by omega
      have HE := Lib.hid (HB.out.trans (HW.out.to_below.mono HB.out.size))
      subst hge
      go_wp2_with fail
      go_ret
      exact ⟨rfl, HE.out⟩

end Go.Proofs.YtaekieoingflaaaGreatDoor
