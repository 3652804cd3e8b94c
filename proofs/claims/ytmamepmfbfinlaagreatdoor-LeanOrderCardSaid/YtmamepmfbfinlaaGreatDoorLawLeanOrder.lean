/-
  LeanOrder answers true.
-/
import Derived.Test.YtmamepmfbfinlaaGreatDoorLnO
import Derived.Test.YtmamepmfbfinlaaGreatDoorPouch5
import Derived.BigQuiet
import Derived.Deep.RegionWith
namespace Go.Proofs.YtmamepmfbfinlaaGreatDoor
open Go.RowKit Go.Proofs.Cpl

set_option maxRecDepth 100000 in
set_option maxHeartbeats 16000000 in
theorem leanOrder_walk (v0 : Value) (len : Nat) (cs : Nat → Int) (b off cap : Nat) (a0 : Option Addr) (hv0 : v0 = .slice a0 len cap) (ha0 : 0 < len → a0 = some ⟨b, off, none⟩) (s : ByteArray) (n : Int) (w : World) (hB : BegunTrue14) (hlib : LibAt w)
    (hl : len ≤ 9223372036854775807) (hbl : 0 < len → b < w.heap.size) (hc : ∀ i, i < len → w.cell? ⟨b, off + i, none⟩ = some (.int .i64 (cs i))) :
    Calls Tryz.prog 6 #[v0, .string s, .int .i64 n] w fun r w' => r = .returned (.bool true) ∧ Below w.heap.size w w' := by
  subst hv0
  have HA : Hid (∀ W i, Below w.heap.size w W → i < len → a0 = some ⟨b, off, none⟩ ∧ W.cell? ⟨b, off + i, none⟩ = some (.int .i64 (cs i))) := Lib.hid (fun W i hW hi => ⟨ha0 (by omega), by rw [hW.cell (hbl (by omega))]; exact hc i hi⟩)
  have HBG := Lib.hid (hB _ hlib)
  have HCU := Lib.hid (cut_any s 40)
  have hS : (cutS s 40).size ≤ maxLen := by have := cutS_size s 40; unfold maxLen; omega
  generalize cutS s 40 = S at *
  have HS := Lib.hid hS
  obtain ⟨i0, hi, hz0, hz1, hz2⟩ := int_info
  clear hS hB hlib ha0 hbl hc
  go_enter Tryz.func6, Tryz.ntmps6
  go_wp2_with fail
  refine HBG.out.mono ?_
  rintro _ W1 ⟨rfl, hb1⟩
  go_wp2_with fail
  refine (HCU.out W1).mono ?_
  rintro _ _ ⟨rfl, rfl⟩
  have HR0 : Hid (Rb w W1.heap.size (W1.heap.size + 2) 1 0 (bldI cs 0) none 0 ((W1.alloc (.cells #[.int .i64 1, .slice none 0 0, .int .i64 0] 24)).alloc (.cells #[.int .i64 9, .slice none 0 0, .int .i64 0] 24)) ∧ RC ((W1.alloc (.cells #[.int .i64 1, .slice none 0 0, .int .i64 0] 24)).alloc (.cells #[.int .i64 9, .slice none 0 0, .int .i64 0] 24)) (W1.heap.size + 1) 9 (.slice none 0 0) 0) := Lib.hid (by
    obtain ⟨h1, h2, h3⟩ := two_boxes W1 1 0 9 0 none none 0 0 0 0 24
    exact ⟨⟨h1, IOwn.nil _ _, by omega, by simp, hb1.trans (h3.mono hb1.size), hb1.size⟩, h2⟩)
  clear hb1 HBG HCU
  go_wp2_with fail
  generalize (W1.alloc (.cells #[.int .i64 1, .slice none 0 0, .int .i64 0] 24)).alloc (.cells #[.int .i64 9, .slice none 0 0, .int .i64 0] 24) = W2 at *
  generalize W1.heap.size = BX at *
  go_loopw [10] (fun v10 wr => ∃ (i : Nat) (la : Option Addr) (lc : Nat), v10 = .int .i64 i ∧ i ≤ 6 ∧ Hid (Rb w BX (BX + 2) 1 0 (bldI cs i) la lc wr ∧ RC wr (BX + 1) 9 (.slice none 0 0) 0)) (fun v10 _ => 6 - (intOf v10).toNat)
  case atStart => exact ⟨0, none, 0, rfl, by omega, HR0⟩
  case round =>
    clear HR0
    obtain ⟨i, la, lc, rfl, hi5, HR⟩ := hrel
    obtain ⟨⟨c0, c1, c2⟩, f0, f1, f2⟩ := HR.out.1.box
    by_cases hgo : i < len ∧ i < 6
    case pos =>
      have t1 : (i : Int) < (len : Int) := by omega
      have t2 : (i : Int) < 6 := by omega
      have hil : i < len := hgo.1
      obtain ⟨rfl, x0⟩ := HA.out wr i HR.out.1.bl hgo.1
      obtain ⟨y1, hy1⟩ : ∃ y, (cs i).tmod 5 = y := ⟨_, rfl⟩
      have hyb : -4 ≤ y1 ∧ y1 ≤ 4 := by
        rw [← hy1]
        have g1 := Int.tmod_lt_of_pos (cs i) (show (0 : Int) < 5 by decide)
        have g2 := Int.lt_tmod_of_pos (cs i) (show (0 : Int) < 5 by decide)
        omega
      have hwr : IntKind.i64.wrap (y1 + 5) = y1 + 5 := IntWalk.i64_in _ (by omega)
      obtain ⟨z, hz⟩ : ∃ z, (y1 + 5).tmod 5 = z := ⟨_, rfl⟩
      have hzb : 0 ≤ z ∧ z ≤ 4 := by
        rw [← hz]
        have g1 := Int.tmod_lt_of_pos (y1 + 5) (show (0 : Int) < 5 by decide)
        have g2 := Int.tmod_nonneg (a := y1 + 5) 5 (by omega)
        omega
      obtain ⟨q, hq⟩ : ∃ q, 1 + z = q := ⟨_, rfl⟩
      have hwn : IntKind.i64.wrap (1 + z) = q := by rw [hq]; exact IntWalk.i64_in _ (by omega)
      have HQ : Hid (digI (cs i) = q) := Lib.hid (by unfold digI; rw [hy1, hz, hq])
      have HSP := spot_p 1 0 q _ (bldI cs i) wr HR.out.1.own.at (by have := bld_len cs i; omega)
      have hC5 := bld_len cs i
      cases hh : hasI (bldI cs i) q with
      | true =>
        have hge : ¬ ixI (bldI cs i) q < 0 := by
          unfold hasI at hh
          have := of_decide_eq_true hh
          omega
        have HN : Hid (bldI cs (i + 1) = bldI cs i) := Lib.hid (bld_yes (by rw [HQ.out]; exact hh))
        generalize ixI (bldI cs i) q = j at *
        generalize bldI cs i = L at *
        replace HSP := Lib.hid HSP
        clear hh hgo hyb hzb hq
        go_wp2_with fail
        refine HSP.out.mono ?_
        rintro _ w2 ⟨rfl, hb2⟩
        have H2 := Lib.hid (And.intro (HR.out.1.below hb2) (HR.out.2.kept (hb2.block _ HR.out.2.lt)))
        clear hb2 c0 c1 c2 f0 f1 f2 x0 hy1 hz
        go_wp2_with fail
        go_roundw
        case rel => exact ⟨i + 1, la, lc, by go_num, by omega, by rw [HN.out]; exact H2⟩
        case measure => simp [intOf]; omega
      | false =>
        have hge : ixI (bldI cs i) q < 0 := by
          unfold hasI at hh
          have := of_decide_eq_false hh
          omega
        have HN : Hid (bldI cs (i + 1) = bldI cs i ++ [q]) := Lib.hid (by rw [bld_no (by rw [HQ.out]; exact hh), HQ.out])
        generalize ixI (bldI cs i) q = j at *
        generalize bldI cs i = L at *
        replace HSP := Lib.hid HSP
        clear hh hgo hyb hzb hq
        go_wp2_with fail
        refine HSP.out.mono ?_
        rintro _ w2 ⟨rfl, hb2⟩
        have H2 := Lib.hid (And.intro (HR.out.1.below hb2) (HR.out.2.kept (hb2.block _ HR.out.2.lt)))
        clear hb2 c0 c1 c2 f0 f1 f2 x0 hy1 hz HSP HR
        obtain ⟨⟨c0, c1, c2⟩, f0, f1, f2⟩ := H2.out.1.box
        have HOW : Hid ((w2.alloc (.cells #[.int .i64 q] 3)).ownsRow (BX + 2) 3 1 (.slice la L.length lc) L.length (icells L)) := Lib.hid (H2.out.1.own.below ((Below.refl _ _).alloc (Nat.le_refl _) _))
        have HGE : Hid (BX + 2 ≤ (w2.alloc (.cells #[.int .i64 q] 3)).heap.size) := Lib.hid (by have := H2.out.1.dl; simp; omega)
        have HNW := Lib.hid (int_new w2 q)
        go_wp2_with (at_builtin; refine wpList_append_own_at _ rfl (.tmp 44) (.tmp 46) 22 rfl (BX + 2) 3 i0 _ 1 8 Tryz.underlying22 hi hz0 hz1 hz2 rfl (by decide) (.slice la L.length lc) L.length (icells L) rfl HOW.out ⟨w2.heap.size, 0, none⟩ 1 1 (icells [q]) rfl rfl HNW.out (icells_one [q]) (by unfold maxLen; omega) (by omega) HGE.out ?_)
        intro v' w3 hown3 hgrow3 _ hloc3
        obtain ⟨hc3, la3, lc3, rfl, hE, hoth⟩ := H2.out.1.step hown3 hgrow3
        replace hE := And.intro hE (H2.out.2.kept (hoth (BX + 1) (by omega) (by omega)))
        clear hoth
        generalize L ++ [q] = M at *
        have HE := Lib.hid hE
        clear hown3 hgrow3 hloc3 hE c0 c1 c2 f0 f1 f2 HOW HGE HNW
        obtain ⟨⟨c0, c1, c2⟩, f0, f1, f2⟩ := hc3
        go_wp2_with fail
        go_roundw
        case rel => exact ⟨i + 1, la3, lc3, by go_num, by omega, by rw [HN.out]; exact HE⟩
        case measure => simp [intOf]; omega
    case neg =>
      have HMA : Hid (1 ≤ (bldI cs i).length → mayR ⟨1, bldI cs i, 0⟩ = true) := Lib.hid (bld_may ⟨by omega, by omega⟩)
      have hC5 := bld_len cs i
      generalize bldI cs i = L at *
      have hsp : (decide ((i : Int) < (len : Int)) = false ∧ ¬ (i : Int) < (len : Int)) ∨ ((i : Int) < (len : Int) ∧ decide ((i : Int) < 6) = false ∧ ¬ (i : Int) < 6) := by
        by_cases h1 : i < len
        · exact .inr ⟨by omega, decide_eq_false (by omega), by omega⟩
        · exact .inl ⟨decide_eq_false (by omega), by omega⟩
      clear hgo
      obtain ⟨W3, hW3⟩ : ∃ W3, W3 = wr := ⟨_, rfl⟩
      subst hW3
      obtain ⟨z, HZ⟩ : ∃ z : Nat, Hid (0 < L.length → z < L.length ∧ ∃ y, n.tmod (L.length : Int) = y ∧ (-(L.length : Int) < y ∧ y < (L.length : Int)) ∧ (y + (L.length : Int)).tmod (L.length : Int) = (z : Int)) := by
        by_cases h0 : 0 < L.length
        · have g1 := Int.tmod_lt_of_pos n (show (0 : Int) < (L.length : Int) by omega)
          have g2 := Int.lt_tmod_of_pos n (show (0 : Int) < (L.length : Int) by omega)
          have g3 := Int.tmod_lt_of_pos (n.tmod (L.length : Int) + (L.length : Int)) (show (0 : Int) < (L.length : Int) by omega)
          have g4 := Int.tmod_nonneg (a := n.tmod (L.length : Int) + (L.length : Int)) (L.length : Int) (by omega)
          exact ⟨((n.tmod (L.length : Int) + (L.length : Int)).tmod (L.length : Int)).toNat, Lib.hid (fun _ => ⟨by omega, _, rfl, ⟨by omega, g1⟩, by omega⟩)⟩
        · exact ⟨0, Lib.hid (fun h => absurd h h0)⟩
      have HOB : Hid (∀ j, (Value.slice la L.length lc).ownBlock = some j → BX + 2 ≤ j ∧ j < W3.heap.size) := Lib.hid (fun j hj => HR.out.1.own.lt hj)
      have HQ0 : Hid (Rb w (BX + 1) W3.heap.size 9 0 (rotI L z 0) none 0 W3 ∧ RC W3 BX 1 (.slice la L.length lc) 0 ∧ IsAt W3 (.slice la L.length lc) L ∧ SameB W3 W3 (.slice la L.length lc)) := Lib.hid ⟨⟨HR.out.2, IOwn.nil _ _, by have := HR.out.1.dl; omega, Nat.le_refl _, HR.out.1.bl, by have := HR.out.1.ge; omega⟩, HR.out.1.box, HR.out.1.own.at, fun _ _ => rfl⟩
      have HRV : Hid (IsAt W3 (.slice la L.length lc) L) := Lib.hid HR.out.1.own.at
      have HR3 : Hid (Below w.heap.size w W3 ∧ w.heap.size ≤ BX ∧ BX + 2 ≤ W3.heap.size) := Lib.hid ⟨HR.out.1.bl, HR.out.1.ge, HR.out.1.dl⟩
      clear HR
      rcases hsp with ⟨t1, t3⟩ | ⟨t1, t2, t3⟩
      all_goals
        go_wp2_with fail
        clear c0 c1 c2 f0 f1 f2 t1 t3
        try clear t2
        go_loopw [13] (fun v13 wr => ∃ (k : Nat) (lq : Option Addr) (lcq : Nat), v13 = .int .i64 k ∧ k ≤ L.length ∧ Hid (Rb w (BX + 1) W3.heap.size 9 0 (rotI L z k) lq lcq wr ∧ RC wr BX 1 (.slice la L.length lc) 0 ∧ IsAt wr (.slice la L.length lc) L ∧ SameB W3 wr (.slice la L.length lc))) (fun v13 _ => L.length - (intOf v13).toNat)
        case atStart => exact ⟨0, none, 0, rfl, Nat.zero_le _, HQ0⟩
        case round =>
          clear HQ0
          obtain ⟨k, lq, lcq, rfl, hk, HQ⟩ := hrel
          by_cases hlt : k < L.length
          · have hltz : (k : Int) < (L.length : Int) := by omega
            obtain ⟨hzl, y, hy, hyb, hz⟩ := HZ.out (by omega)
            have hwy : IntKind.i64.wrap (y + (L.length : Int)) = y + (L.length : Int) := IntWalk.i64_in _ (by omega)
            obtain ⟨u, hu⟩ : ∃ u : Int, (k : Int) + (z : Int) = u := ⟨_, rfl⟩
            have hwu : IntKind.i64.wrap ((k : Int) + (z : Int)) = u := by rw [hu]; exact IntWalk.i64_in _ (by omega)
            have hjlt : (k + z) % L.length < L.length := Nat.mod_lt _ (by omega)
            have huj : u.tmod (L.length : Int) = (((k + z) % L.length : Nat) : Int) := by
              rw [← hu, show (k : Int) + (z : Int) = ((k + z : Nat) : Int) by omega, tmod_nat]
            obtain ⟨x, hx⟩ : ∃ x, L[(k + z) % L.length]? = some x := ⟨_, List.getElem?_eq_getElem hjlt⟩
            have HT := Lib.hid (rot_step L z k hx)
            have HKL := Lib.hid (rot_len L z k)
            obtain ⟨g, o, rfl, x0⟩ := HQ.out.2.2.1.get hx
            generalize (k + z) % L.length = j at *
            have hjz : (j : Int) < (L.length : Int) := by omega
            have hnz : ¬ (L.length : Int) = 0 := by omega
            have hL0 : ¬ L = [] := by rintro rfl; simp at hlt
            have hnzb : ((L.length : Int) == 0) = false := by rw [beq_eq_false_iff_ne]; omega
            have HD0 : Hid (W3.heap.size ≤ wr.heap.size ∧ BX + 1 < W3.heap.size ∧ g < W3.heap.size) := Lib.hid ⟨HQ.out.1.dl, HQ.out.1.lt, (HOB.out g rfl).2⟩
            have HSS : Hid (∀ Y, Below W3.heap.size wr Y → Y.cell? ⟨BX + 1, 1, none⟩ = some (.slice lq k lcq) ∧ Y.cell? ⟨BX, 1, none⟩ = some (.slice (some ⟨g, o, none⟩) L.length lc) ∧ Y.cell? ⟨g, o + j, none⟩ = some (.int .i64 x)) := Lib.hid (fun Y hY => by
              have h1 := HQ.out.1.box.1.2.1
              rw [HKL.out] at h1
              have h2 := HQ.out.2.1.1.2.1
              have h4 := HD0.out
              exact ⟨(hY.cell (p := ⟨BX + 1, 1, none⟩) h4.2.1).trans h1, (hY.cell (p := ⟨BX, 1, none⟩) (by show BX < _; omega)).trans h2, (hY.cell (p := ⟨g, o + j, none⟩) h4.2.2).trans x0⟩)
            have HDR : Hid (Below W3.heap.size wr wr.drew) := Lib.hid (Below.refl _ _).drew
            have hS0 := HSS.out _ HDR.out
            have HOWN : Hid ((wr.drew.alloc (.cells #[.int .i64 x] 3)).ownsRow W3.heap.size 3 1 (.slice lq k lcq) k (icells (rotI L z k))) := Lib.hid (by
              have h1 := HQ.out.1.own.below (w' := wr.drew.alloc (.cells #[.int .i64 x] 3)) ((Below.refl _ _).drew.alloc (Nat.le_refl _) _)
              unfold IOwn at h1
              rw [HKL.out] at h1
              exact h1)
            have HGE : Hid (W3.heap.size ≤ (wr.drew.alloc (.cells #[.int .i64 x] 3)).heap.size) := Lib.hid (by have := HQ.out.1.dl; simp; omega)
            have HNW := Lib.hid (int_new wr.drew x)
            have HXX := Lib.hid (And.intro hu hx)
            have HQD : Hid (Rb w (BX + 1) W3.heap.size 9 0 (rotI L z k) lq lcq wr.drew ∧ RC wr.drew BX 1 (.slice (some ⟨g, o, none⟩) L.length lc) 0 ∧ wr.drew.heap.size = wr.heap.size ∧ SameB W3 wr.drew (.slice (some ⟨g, o, none⟩) L.length lc)) := Lib.hid ⟨HQ.out.1.below (Below.refl _ _).drew, HQ.out.2.1.kept rfl, rfl, HQ.out.2.2.2⟩
            have HV3 : Hid (IsAt W3 (.slice (some ⟨g, o, none⟩) L.length lc) L) := HRV
            clear hx hu hyb
            have hk5 : k ≤ 5 := by omega
            go_wp2_with fail
            refine wp_region_last (S := fun Y => Y.cell? ⟨BX + 1, 1, none⟩ = some (.slice lq k lcq) ∧ Y.cell? ⟨BX, 1, none⟩ = some (.slice (some ⟨g, o, none⟩) L.length lc) ∧ Y.cell? ⟨g, o + j, none⟩ = some (.int .i64 x)) (by kernel_rfl) (ops := List.toArray [_, _, _, _, _, _, _, _, _, _, _, _, _, _, _, _, _, _, _, _]) (o := _) rfl (by kernel_rfl) ?_
            refine wpAnyH_take (i := 0) (v := Value.pointer (some ⟨BX + 1, 1, none⟩)) rfl (by kernel_rfl) (by kernel_rfl) (by kernel_rfl) (fun _ _ _ h => h) (Or.inl ⟨by rfl, ?_⟩) hS0 ?_
            · intro w' ⟨s0, s1, s2⟩; go_simp
            refine wpAnyH_take (i := 1) (v := Value.slice lq k lcq) rfl (by kernel_rfl) (by kernel_rfl) (by kernel_rfl) (fun _ _ _ h => h) (Or.inl ⟨by rfl, ?_⟩) hS0 ?_
            · intro w' ⟨s0, s1, s2⟩; go_simp
            refine wpAnyH_take (i := 2) (v := Value.pointer (some ⟨BX, 1, none⟩)) rfl (by kernel_rfl) (by kernel_rfl) (by kernel_rfl) (fun _ _ _ h => h) (Or.inl ⟨by rfl, ?_⟩) hS0 ?_
            · intro w' ⟨s0, s1, s2⟩; go_simp
            refine wpAnyH_take (i := 3) (v := Value.slice (some ⟨g, o, none⟩) L.length lc) rfl (by kernel_rfl) (by kernel_rfl) (by kernel_rfl) (fun _ _ _ h => h) (Or.inl ⟨by rfl, ?_⟩) hS0 ?_
            · intro w' ⟨s0, s1, s2⟩; go_simp
            refine wpAnyH_take (i := 4) (v := Value.int .i64 (k : Int)) rfl (by kernel_rfl) (by kernel_rfl) (by kernel_rfl) (fun _ _ _ h => h) (Or.inl ⟨by rfl, ?_⟩) hS0 ?_
            · intro w' ⟨s0, s1, s2⟩; go_simp
            refine wpAnyH_take (i := 5) (v := Value.int .i64 n) rfl (by kernel_rfl) (by kernel_rfl) (by kernel_rfl) (fun _ _ _ h => h) (Or.inl ⟨by rfl, ?_⟩) hS0 ?_
            · intro w' ⟨s0, s1, s2⟩; go_simp
            refine wpAnyH_take (i := 6) (v := Value.int .i64 (L.length : Int)) rfl (by kernel_rfl) (by kernel_rfl) (by kernel_rfl) (fun _ _ _ h => h) (Or.inl ⟨by rfl, ?_⟩) hS0 ?_
            · intro w' ⟨s0, s1, s2⟩; go_simp
            refine wpAnyH_take (i := 7) (v := Value.int .i64 y) rfl (by kernel_rfl) (by kernel_rfl) (by kernel_rfl) (fun _ _ _ h => h) (Or.inl ⟨by rfl, ?_⟩) hS0 ?_
            · intro w' ⟨s0, s1, s2⟩; go_simp
            refine wpAnyH_take (i := 8) (v := Value.int .i64 (L.length : Int)) rfl (by kernel_rfl) (by kernel_rfl) (by kernel_rfl) (fun _ _ _ h => h) (Or.inl ⟨by rfl, ?_⟩) hS0 ?_
            · intro w' ⟨s0, s1, s2⟩; go_simp
            refine wpAnyH_take (i := 9) (v := Value.int .i64 (y + (L.length : Int))) rfl (by kernel_rfl) (by kernel_rfl) (by kernel_rfl) (fun _ _ _ h => h) (Or.inl ⟨by rfl, ?_⟩) hS0 ?_
            · intro w' ⟨s0, s1, s2⟩; go_simp
            refine wpAnyH_take (i := 10) (v := Value.int .i64 (L.length : Int)) rfl (by kernel_rfl) (by kernel_rfl) (by kernel_rfl) (fun _ _ _ h => h) (Or.inl ⟨by rfl, ?_⟩) hS0 ?_
            · intro w' ⟨s0, s1, s2⟩; go_simp
            refine wpAnyH_take (i := 11) (v := Value.int .i64 (z : Int)) rfl (by kernel_rfl) (by kernel_rfl) (by kernel_rfl) (fun _ _ _ h => h) (Or.inl ⟨by rfl, ?_⟩) hS0 ?_
            · intro w' ⟨s0, s1, s2⟩; go_simp
            refine wpAnyH_take (i := 12) (v := Value.int .i64 u) rfl (by kernel_rfl) (by kernel_rfl) (by kernel_rfl) (fun _ _ _ h => h) (Or.inl ⟨by rfl, ?_⟩) hS0 ?_
            · intro w' ⟨s0, s1, s2⟩; go_simp
            refine wpAnyH_take (i := 13) (v := Value.int .i64 (L.length : Int)) rfl (by kernel_rfl) (by kernel_rfl) (by kernel_rfl) (fun _ _ _ h => h) (Or.inl ⟨by rfl, ?_⟩) hS0 ?_
            · intro w' ⟨s0, s1, s2⟩; go_simp
            refine wpAnyH_take (i := 14) (v := Value.int .i64 (j : Int)) rfl (by kernel_rfl) (by kernel_rfl) (by kernel_rfl) (fun _ _ _ h => h) (Or.inl ⟨by rfl, ?_⟩) hS0 ?_
            · intro w' ⟨s0, s1, s2⟩; go_simp
            refine wpAnyH_take (i := 15) (v := Value.pointer (some ⟨g, o + j, none⟩)) rfl (by kernel_rfl) (by kernel_rfl) (by kernel_rfl) (fun _ _ _ h => h) (Or.inl ⟨by rfl, ?_⟩) hS0 ?_
            · intro w' ⟨s0, s1, s2⟩; go_simp
            refine wpAnyH_take (i := 16) (v := Value.int .i64 x) rfl (by kernel_rfl) (by kernel_rfl) (by kernel_rfl) (fun _ _ _ h => h) (Or.inl ⟨by rfl, ?_⟩) hS0 ?_
            · intro w' ⟨s0, s1, s2⟩; go_simp
            simp only [List.getElem_toArray, List.getElem_cons_succ, List.getElem_cons_zero, Act.put, List.setIfInBounds_toArray, List.set_cons_zero, List.set_cons_succ]
            clear hS0
            generalize wr.drew = Y0 at *
            refine wpAnyH_ready (rs := [17]) (by kernel_rfl) (by simp) ?_
            refine AllReadyH.cons rfl (fun K hK => ?_) AllReadyH.nil
            simp only [List.getElem_toArray, List.getElem_cons_succ, List.getElem_cons_zero]
            go_simp
            have HB1 : Hid (Below W3.heap.size wr (Y0.alloc (.cells #[.int .i64 x] 3))) := Lib.hid (HDR.out.alloc (by have h1 := HQD.out.2.2.1; have h2 := HD0.out.1; omega) _)
            refine hK.out _ _ (HSS.out _ HB1.out) (fun _ => ?_)
            clear hK
            refine wpAnyH_ready (rs := [18]) (by kernel_rfl) (by simp) ?_
            refine AllReadyH.cons rfl (fun K hK => ?_) AllReadyH.nil
            simp only [List.getElem_toArray, List.getElem_cons_succ, List.getElem_cons_zero]
            rw [if_pos (by rfl)]
            refine op_append_at (.tmp 58) (.tmp 74) _ rfl W3.heap.size 3 i0 _ 1 8 Tryz.underlying22 hi hz0 hz1 hz2 rfl (by decide) (.slice lq k lcq) k (icells (rotI L z k)) (by rfl) HOWN.out ⟨Y0.heap.size, 0, none⟩ 1 1 (icells [x]) (by rfl) rfl HNW.out (icells_one [x]) (by unfold maxLen; omega) (by omega) HGE.out ?_
            intro v' w3 hown3 hgrow3 hloc3
            have hown4 : w3.ownsRow W3.heap.size 3 1 v' ((rotI L z k).length + 1) (icells (rotI L z k) ++ icells [x]) := by rw [HKL.out]; exact hown3
            have hgrow4 : (Y0.alloc (.cells #[.int .i64 x] 3)).grownBy w3 (Value.slice lq (rotI L z k).length lcq).ownBlock := by rw [HKL.out]; exact hgrow3
            obtain ⟨hc3, la3, lc3, rfl, hE, hoth⟩ := HQD.out.1.step hown4 hgrow4
            rw [← HT.out] at hE hoth ⊢
            have hdl := hE.dl
            have HE : Hid (Rb w (BX + 1) W3.heap.size 9 0 (rotI L z (k + 1)) la3 lc3 (w3.setCell ⟨BX + 1, 1, none⟩ (.slice la3 (rotI L z (k + 1)).length lc3)) ∧ RC (w3.setCell ⟨BX + 1, 1, none⟩ (.slice la3 (rotI L z (k + 1)).length lc3)) BX 1 (.slice (some ⟨g, o, none⟩) L.length lc) 0 ∧ IsAt (w3.setCell ⟨BX + 1, 1, none⟩ (.slice la3 (rotI L z (k + 1)).length lc3)) (.slice (some ⟨g, o, none⟩) L.length lc) L ∧ SameB W3 (w3.setCell ⟨BX + 1, 1, none⟩ (.slice la3 (rotI L z (k + 1)).length lc3)) (.slice (some ⟨g, o, none⟩) L.length lc)) := Lib.hid (by
              have hkk : SameB W3 (w3.setCell ⟨BX + 1, 1, none⟩ (.slice la3 (rotI L z (k + 1)).length lc3)) (.slice (some ⟨g, o, none⟩) L.length lc) := fun j hj => by
                have := HOB.out j hj
                rw [hoth j this.2 (by omega)]
                exact HQD.out.2.2.2 j hj
              exact ⟨hE, HQD.out.2.1.kept (hoth BX (by have := HR3.out.2.2; omega) (by omega)), HV3.out.kept hdl hkk, hkk⟩)
            have hb3 : Below W3.heap.size wr w3 := HB1.out.grown hgrow3 HGE.out (fun j' hj => (HQD.out.1.own.lt (g := j') (by rw [HKL.out]; exact hj)).1)
            refine hK.out _ _ (HSS.out _ hb3) (fun hS0 => ?_)
            clear hK
            simp only [Act.put, List.setIfInBounds_toArray, List.set_cons_zero, List.set_cons_succ]
            refine wpAnyH_take (i := 19) (v := Value.pointer (some ⟨BX + 1, 1, none⟩)) rfl (by kernel_rfl) (by kernel_rfl) (by kernel_rfl) (fun _ _ _ h => h) (Or.inl ⟨by rfl, ?_⟩) hS0 ?_
            · intro w' ⟨s0, s1, s2⟩; go_simp
            simp only [List.getElem_toArray, List.getElem_cons_succ, List.getElem_cons_zero, Act.put, List.setIfInBounds_toArray, List.set_cons_zero, List.set_cons_succ]
            refine wpAnyH_done (by kernel_rfl) ?_ _
            dsimp only [Exit.then]
            rw [if_pos (by rfl)]
            clear hown3 hgrow3 hown4 hgrow4 hloc3 hE hoth hb3 hS0 hdl
            obtain ⟨⟨d0, d1, d2⟩, e0, e1, e2⟩ := hc3
            go_simp
            clear d0 d1 d2 e0 e1 e2
            go_wp2_with fail
            go_roundw
            case rel => exact ⟨k + 1, la3, lc3, by go_num, by omega, HE⟩
            case measure => simp [intOf]; omega
          · obtain rfl : k = L.length := by omega
            have hltz : ¬ (L.length : Int) < (L.length : Int) := by omega
            have HE := Lib.hid HQ.out.1.bl
            by_cases h0 : L.length = 0
            · have h0b : ((L.length : Int) == 0) = true := by rw [beq_iff_eq]; omega
              have hL0 : L = [] := List.length_eq_zero_iff.1 h0
              subst hL0
              simp only [List.length_nil] at *
              clear h0
              go_wp2_with fail
              go_quiet (fail)
              have HE2 := Lib.hid (below_drewN HE.out nq)
              generalize wr.drewN nq = V3 at *
              go_wp2_with fail
              go_ret
              exact ⟨rfl, HE2.out⟩
            · have h0b : ((L.length : Int) == 0) = false := by rw [beq_eq_false_iff_ne]; omega
              have hzl := (HZ.out (by omega)).1
              have hcm := cho_may (HMA.out (by omega))
              have hcr := cho_rot L z hzl hcm
              have hpr := pick_rot (mkI S) L z hzl
              have hML := rot_len L z L.length
              have HQB := Lib.hid HQ.out
              clear HQ HZ
              generalize rotI L z L.length = M at *
              have p1 := fun V (h : IsAt V (.slice la L.length lc) L) => Pick_p 1 0 _ L S HS.out V h (by omega) hcm
              have p2 := fun V (h : IsAt V (.slice lq M.length lcq) M) => Pick_p 9 0 _ M S HS.out V h (by omega) hcr
              rw [hpr] at p2
              generalize pickI (mkI S) L 0 = P at *
              have y1 : Hid (∀ d os, Calls Tryz.prog 13 #[.agg #[.int .i64 1, .slice la L.length lc, .int .i64 0], .string S] (Go.Sort.grow (redrawn wr d) os) fun e w'' => e = .returned (.int .i64 P) ∧ ∃ p : Regrown, w'' = Go.Sort.grow (redrawn wr p.d) p.os) := Lib.hid (fun d os => Calls.regrown_of (p1 _ (HQB.out.2.2.1.below (below_regrown wr d os))))
              have y2 : Hid (∀ d os, Calls Tryz.prog 13 #[.agg #[.int .i64 9, .slice lq M.length lcq, .int .i64 0], .string S] (Go.Sort.grow (redrawn wr d) os) fun e w'' => e = .returned (.int .i64 P) ∧ ∃ p : Regrown, w'' = Go.Sort.grow (redrawn wr p.d) p.os) := Lib.hid (fun d os => Calls.regrown_of (p2 _ (HQB.out.1.own.at.below (below_regrown wr d os))))
              obtain ⟨⟨c0, c1, c2⟩, _⟩ := HQB.out.2.1
              obtain ⟨⟨d0, d1, d2⟩, _⟩ := HQB.out.1.box
              have q0 := cell_regrown c0
              have q1 := cell_regrown c1
              have q2 := cell_regrown c2
              have r0 := cell_regrown d0
              have r1 := cell_regrown d1
              have r2 := cell_regrown d2
              clear c0 c1 c2 d0 d1 d2 p1 p2 hpr hcr hcm hML hzl h0
              go_wp2_with fail
              refine wp_region_quiet_below (by kernel_rfl) (by kernel_rfl) ?_
              repeat (quiet_step (first | (go_at_call_of 13 (Value.int IntKind.i64 9); exact y2.out _ _) | (go_at_call 13; exact y1.out _ _)))
              refine wpQuiet_nil ?_
              intro _ hw'
              obtain ⟨⟨dq, osq⟩, hw''⟩ := hw'
              subst hw''
              have HE2 := Lib.hid (HE.out.trans ((below_regrown wr dq osq).mono HE.out.size))
              clear q0 q1 q2 r0 r1 r2 y1 y2
              generalize Go.Sort.grow (redrawn wr dq) osq = V6 at *
              go_wp2_with fail
              go_ret
              exact ⟨rfl, HE2.out⟩

end Go.Proofs.YtmamepmfbfinlaaGreatDoor
