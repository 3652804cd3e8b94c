/-
  LeanAll answers true.
-/
import Derived.Test.YtmamepmfbfinlaaGreatDoorLnC
import Derived.Test.YtmamepmfbfinlaaGreatDoorLnK
import Derived.BigQuiet
namespace Go.Proofs.YtmamepmfbfinlaaGreatDoor
open Go.RowKit Go.Proofs.Cpl

/-- What stands at a round's beginning. -/
structure LA (w : World) (B C D : Nat) (e nw : Int) (ad : Option Addr) (cap : Nat) (L ps : List Int) (la : Option Addr) (lc : Nat) (ks : List ByteArray) (wr : World) : Prop where
  box : RC wr B e (.slice ad L.length cap) nw
  lst : IsAt wr (.slice ad L.length cap) L
  cnt : CnAt wr C L ps
  own : SOwn wr D (.slice la ks.length lc) ks
  bl : Below w.heap.size w wr
  ge : w.heap.size ≤ C
  cd : C < D
  bd : B < D
  ld : ∀ j, (Value.slice ad L.length cap).ownBlock = some j → j < D ∧ j ≠ C
  bc : B ≠ C
  dl : D ≤ wr.heap.size

theorem LA.below {w wr w' : World} {B C D : Nat} {e nw : Int} {ad : Option Addr} {cap : Nat} {L ps : List Int} {la : Option Addr} {lc : Nat} {ks : List ByteArray} (h : LA w B C D e nw ad cap L ps la lc ks wr) (hb : Below wr.heap.size wr w') : LA w B C D e nw ad cap L ps la lc ks w' :=
  ⟨h.box.kept (hb.block _ h.box.lt), h.lst.below hb, h.cnt.below hb, h.own.below hb, h.bl.trans (hb.mono h.bl.size), h.ge, h.cd, h.bd, h.ld, h.bc, Nat.le_trans h.dl hb.size⟩

/-- One more is counted. -/
theorem LA.count {w wr : World} {B C D : Nat} {e nw : Int} {ad : Option Addr} {cap : Nat} {L ps : List Int} {la : Option Addr} {lc : Nat} {ks : List ByteArray} (h : LA w B C D e nw ad cap L ps la lc ks wr) (hp : L.Pairwise (· ≠ ·)) {j : Nat} {p : Int} (hj : L[j]? = some p) :
    LA w B C D e nw ad cap L (ps ++ [p]) la lc ks (wr.setCell ⟨C, j, none⟩ (.int .i64 ((cntI ps p : Int) + 1))) := by
  have hk : ∀ g, g ≠ C → (wr.setCell ⟨C, j, none⟩ (.int .i64 ((cntI ps p : Int) + 1))).heap[g]? = wr.heap[g]? := fun g hg => Below.heap_setCell _ _ _ _ (by simpa using hg)
  have h1 := h.cd
  exact ⟨h.box.kept (hk _ h.bc), h.lst.kept (by simp) (fun g hg => hk g (h.ld g hg).2), h.cnt.put hp hj, h.own.kept (fun g hg => hk g (by have := (h.own.lt hg).1; omega)), h.bl.setCell (p := ⟨C, j, none⟩) h.ge _, h.ge, h.cd, h.bd, h.ld, h.bc, by simpa using h.dl⟩

/-- One more key. -/
theorem LA.key {w wr W3 : World} {B C D : Nat} {e nw : Int} {ad : Option Addr} {cap : Nat} {L ps : List Int} {la : Option Addr} {lc : Nat} {ks : List ByteArray} {s : ByteArray} {v' : Value} {c1 : Obj} (h : LA w B C D e nw ad cap L ps la lc ks wr)
    (hown : W3.ownsRow D 9 1 v' (ks.length + 1) (scells ks ++ scells [s])) (hgrow : (wr.alloc c1).grownBy W3 (Value.slice la ks.length lc).ownBlock) :
    ∃ la' lc', v' = .slice la' (ks ++ [s]).length lc' ∧ LA w B C D e nw ad cap L ps la' lc' (ks ++ [s]) W3 := by
  obtain ⟨la', lc', rfl, ho, hb⟩ := h.own.step h.dl hown hgrow
  have h1 := h.cd
  have h2 := h.ge
  exact ⟨la', lc', rfl, h.box.kept (hb.block _ h.bd), h.lst.kept hb.size (fun g hg => hb.block g (h.ld g hg).1), h.cnt.kept hb.size (hb.block _ h.cd), ho, h.bl.trans (hb.mono (by omega)), h.ge, h.cd, h.bd, h.ld, h.bc, Nat.le_trans h.dl hb.size⟩

set_option maxRecDepth 100000 in
set_option maxHeartbeats 32000000 in
theorem leanAll_walk (e nw : Int) (v : Value) (l : List Int) (v1 : Value) (len : Nat) (cs : Nat → ByteArray) (b off cap1 : Nat) (a1 : Option Addr) (hv1 : v1 = .slice a1 len cap1) (ha1 : 0 < len → a1 = some ⟨b, off, none⟩) (n : Int) (w : World) (hB : BegunTrue14) (hlib : LibAt w)
    (h : IsAt w v l) (hn : l.length ≤ 9223372036854775807) (hl : len ≤ 9223372036854775807) (hbl : 0 < len → b < w.heap.size) (hc : ∀ i, i < len → w.cell? ⟨b, off + i, none⟩ = some (.string (cs i))) :
    Calls Tryz.prog 3 #[.agg #[.int .i64 e, v, .int .i64 nw], v1, .int .i64 n] w fun r w' => r = .returned (.bool true) ∧ Below w.heap.size w w' := by
  subst hv1
  have HA : Hid (∀ W i, Below w.heap.size w W → i < len → a1 = some ⟨b, off, none⟩ ∧ W.cell? ⟨b, off + i, none⟩ = some (.string (cs i))) := Lib.hid (fun W i hW hi => ⟨ha1 (by omega), by rw [hW.cell (hbl (by omega))]; exact hc i hi⟩)
  obtain ⟨ad, cap, rfl, _⟩ := h.shape
  have HB0 := Lib.hid (ro_below w e (.slice ad l.length cap) nw 24)
  have HC0 := Lib.hid (cb_new w ⟨e, l, nw⟩ ad cap h)
  have HBG := Lib.hid (hB _ (hlib.below HB0.out))
  have HCU := Lib.hid (fun s => cut_any s 40)
  obtain ⟨i0, hi, hz0, hz1, hz2⟩ := info_parts ln_infoStr
  have hL7 : (l.take 7).length ≤ 7 := by rw [List.length_take]; omega
  clear h hB hlib ha1 hbl hc
  go_enter Tryz.func3, Tryz.ntmps3
  go_wp2_with fail
  generalize w.alloc (.cells #[.int .i64 e, .slice ad l.length cap, .int .i64 nw] 24) = W at *
  refine HBG.out.mono ?_
  rintro _ W1 ⟨rfl, hb⟩
  replace HC0 := Lib.hid (HC0.out.below hb)
  replace HB0 := Lib.hid (HB0.out.trans (hb.mono HB0.out.size))
  clear hb HBG
  obtain ⟨⟨p0, p1, p2⟩, _⟩ := HC0.out.c
  dsimp only at p0 p1 p2
  go_wp2_with fail
  clear p0 p1 p2
  refine (lroster_p e nw _ l W1 HC0.out.v hn).mono ?_
  rintro _ W2 ⟨a2, c2, rfl, ho, hy⟩
  generalize l.take 7 = L at *
  have HP := Lib.hid (box_put HC0.out HB0.out ho hy (e := e) (nw := nw))
  have HC2 := Lib.hid (HC0.out.below hy)
  clear ho hy HC0 HB0
  obtain ⟨⟨p0, p1, p2⟩, f0, f1, f2⟩ := HC2.out.c
  dsimp only at p0 p1 p2
  go_wp2_with fail
  clear p0 p1 p2 f0 f1 f2 HC2
  generalize ((W2.setCell ⟨w.heap.size, 0, none⟩ (.int .i64 e)).setCell ⟨w.heap.size, 1, none⟩ (.slice a2 L.length c2)).setCell ⟨w.heap.size, 2, none⟩ (.int .i64 nw) = V at *
  have HC := Lib.hid HP.out.1
  have HO := Lib.hid HP.out.2.1
  have HB := Lib.hid HP.out.2.2
  clear HP
  refine (rmayr_p e nw _ L V HC.out.v (by omega)).mono ?_
  cases hm : mayR ⟨e, L, nw⟩ with
  | false =>
    rintro _ V1 ⟨rfl, hb⟩
    replace HB := Lib.hid (HB.out.trans (hb.mono HB.out.size))
    clear hb hm
    go_wp2_with fail
    go_ret
    exact ⟨rfl, HB.out⟩
  | true =>
    rintro _ V1 ⟨rfl, hb⟩
    replace HC := Lib.hid (HC.out.below hb)
    replace HO := Lib.hid (HO.out.below hb)
    replace HB := Lib.hid (HB.out.trans (hb.mono HB.out.size))
    have HM := Lib.hid hm
    have hL5 : L.length ≤ 5 := (mayR_len hm).2.2.2
    have hmk := ln_make L.length (by omega) V1
    clear hb hm
    obtain ⟨⟨p0, p1, p2⟩, _⟩ := HC.out.c
    dsimp only at p0 p1 p2
    go_wp2_with fail
    clear p0 p1 p2 hmk
    have HLA : Hid (LA w w.heap.size V1.heap.size (V1.heap.size + 1) e nw a2 c2 L (pksI L nw (keysI cs 0)) none 0 (keysI cs 0) (V1.alloc (.cells (madeCells #[.int .i64 0] L.length) 3))) := Lib.hid (by
      have hal : Below V1.heap.size V1 (V1.alloc (.cells (madeCells #[.int .i64 0] L.length) 3)) := (Below.refl _ _).alloc (Nat.le_refl _) _
      have hlt := HC.out.c.lt
      exact ⟨(HC.out.below hal).c, (HC.out.below hal).v, CnAt.made V1 L, SOwn.nil _ _, HB.out.trans (hal.mono HB.out.size), HB.out.size, Nat.lt_succ_self _, by omega, fun j hj => by have := HO.out.lt hj; omega, by omega, by simp⟩)
    generalize V1.alloc (.cells (madeCells #[.int .i64 0] L.length) 3) = V2 at *
    generalize V1.heap.size = CB0 at *
    clear HC HO HB
    go_loopw [8, 10] (fun v8 v10 wr => ∃ (k : Nat) (la : Option Addr) (lc : Nat), k ≤ 20 ∧ v8 = .slice la k lc ∧ v10 = .int .i64 k ∧ Hid (LA w w.heap.size CB0 (CB0 + 1) e nw a2 c2 L (pksI L nw (keysI cs k)) la lc (keysI cs k) wr)) (fun _ v10 _ => 20 - (intOf v10).toNat)
    case atStart => exact ⟨0, none, 0, by omega, rfl, rfl, HLA⟩
    case round =>
      clear HLA
      obtain ⟨k, la, lc, hk, rfl, rfl, HI⟩ := hrel
      by_cases hgo : k < len ∧ k < 20
      case pos =>
        have t1 : (k : Int) < (len : Int) := by omega
        have t2 : (k : Int) < 20 := by omega
        have hkl : k < len := hgo.1
        obtain ⟨rfl, x0⟩ := HA.out wr k HI.out.bl hgo.1
        have HKS : Hid (keysI cs (k + 1) = keysI cs k ++ [cutS (cs k) 40]) := Lib.hid (keysI_step cs k)
        have hS : (cutS (cs k) 40).size ≤ maxLen := by have := cutS_size (cs k) 40; unfold maxLen; omega
        have HKC := Lib.hid (HCU.out (cs k))
        clear hgo
        go_wp2_with fail
        refine (HKC.out wr).mono ?_
        rintro _ _ ⟨rfl, rfl⟩
        generalize cutS (cs k) 40 = S at *
        have HS := Lib.hid hS
        have HPK : Hid (pksI L nw (keysI cs (k + 1)) = pksI L nw (keysI cs k) ++ [pickI (mkI S) L nw]) := Lib.hid (by rw [HKS.out, pksI_snoc])
        obtain ⟨hcm, hpin⟩ : (choI L nw ≠ [] ∨ L = []) ∧ pickI (mkI S) L nw ∈ L := by
          obtain ⟨y, hy⟩ := cho_some HM.out
          exact ⟨cho_ne hy, ((cho_mem L nw _).1 (pick_best (z := mkI S) hy).1).2.2⟩
        have HR1 := Lib.hid (fun V (h : IsAt V (.slice a2 L.length c2) L) => rPick_p e nw _ L S HS.out V h (by omega))
        have HR2 := Lib.hid (fun V (h : IsAt V (.slice a2 L.length c2) L) => Pick_p e nw _ L S HS.out V h (by omega) hcm)
        obtain ⟨j, hjl, hjx, hji⟩ := ix_mem (mayR_ns HM.out).1 hpin
        have HW1 := Lib.hid (lweight_p n S HS.out)
        have HW2 := Lib.hid (rweight_p n S HS.out)
        generalize pickI (mkI S) L nw = P at *
        generalize wtI (mkI S) n = X at *
        have HPL : Hid ((pksI L nw (keysI cs k)).length ≤ 20) := Lib.hid (by rw [pksI_len, keysI_len]; exact hk)
        generalize pksI L nw (keysI cs k) = ps at *
        have HJ := Lib.hid (And.intro hjx hji)
        have hjz : (j : Int) < (L.length : Int) := by omega
        clear hS hcm hpin hjx hji x0
        obtain ⟨⟨p0, p1, p2⟩, _⟩ := HI.out.box
        go_wp2_with fail
        clear p0 p1 p2
        refine (HR1.out wr HI.out.lst).mono ?_
        rintro _ w1 ⟨rfl, hb⟩
        have H1 := Lib.hid (HI.out.below hb)
        clear hb HI
        obtain ⟨⟨p0, p1, p2⟩, _⟩ := H1.out.box
        go_wp2_with fail
        clear p0 p1 p2
        refine (HR2.out w1 H1.out.lst).mono ?_
        rintro _ w2 ⟨rfl, hb⟩
        have H2 := Lib.hid (H1.out.below hb)
        clear hb H1
        go_wp2_with fail
        refine (HW1.out w2).mono ?_
        rintro _ w3 ⟨rfl, hb⟩
        have H3 := Lib.hid (H2.out.below hb)
        clear hb H2
        go_wp2_with fail
        refine (HW2.out w3).mono ?_
        rintro _ w4 ⟨rfl, hb⟩
        have H4 := Lib.hid (H3.out.below hb)
        clear hb H3
        obtain ⟨⟨p0, p1, p2⟩, _⟩ := H4.out.box
        go_wp2_with fail
        clear p0 p1 p2
        refine (spot_p e nw P _ L w4 H4.out.lst (by omega)).mono ?_
        rw [HJ.out.2]
        rintro _ w5 ⟨rfl, hb⟩
        have H5 := Lib.hid (H4.out.below hb)
        clear hb H4
        obtain ⟨q0, q1⟩ := H5.out.cnt.2 j P HJ.out.1
        have hcn : cntI ps P ≤ 20 := Nat.le_trans (cntI_le ps P) HPL.out
        have H6 := Lib.hid (H5.out.count ((mayNs_iff L).1 (mayR_ns HM.out).1).2.2 HJ.out.1)
        rw [← HPK.out] at H6
        generalize cntI ps P = m at *
        have hwm : IntKind.i64.wrap ((m : Int) + 1) = (m : Int) + 1 := IntWalk.i64_in _ (by omega)
        have hfr : w5.frozen? ⟨CB0, j, none⟩ = false := q1
        have HKL := Lib.hid (keysI_len cs k)
        have HS6 : Hid ((w5.setCell ⟨CB0, j, none⟩ (.int .i64 ((m : Int) + 1))).heap.size = w5.heap.size) := Lib.hid (by simp)
        have HOW : Hid (((w5.setCell ⟨CB0, j, none⟩ (.int .i64 ((m : Int) + 1))).alloc (.cells #[.string S] 9)).ownsRow (CB0 + 1) 9 1 (.slice la k lc) k (scells (keysI cs k))) := Lib.hid (by
          have h1 := H6.out.own.below (w' := (w5.setCell ⟨CB0, j, none⟩ (.int .i64 ((m : Int) + 1))).alloc (.cells #[.string S] 9)) ((Below.refl _ _).alloc (Nat.le_refl _) _)
          unfold SOwn at h1
          rw [HKL.out] at h1
          exact h1)
        have HGE : Hid (CB0 + 1 ≤ ((w5.setCell ⟨CB0, j, none⟩ (.int .i64 ((m : Int) + 1))).alloc (.cells #[.string S] 9)).heap.size) := Lib.hid (by have := H6.out.dl; rw [World.size_alloc]; omega)
        have HNW : Hid (∀ i u, (scells [S])[i]? = some u → ((w5.setCell ⟨CB0, j, none⟩ (.int .i64 ((m : Int) + 1))).alloc (.cells #[.string S] 9)).cell? ((⟨w5.heap.size, 0, none⟩ : Addr).add i) = some u) := Lib.hid (by
          have := str_new (w5.setCell ⟨CB0, j, none⟩ (.int .i64 ((m : Int) + 1))) S
          rw [HS6.out] at this
          exact this)
        have hk20 : k ≤ 20 := hk
        go_wp2_with (at_builtin; refine wpList_append_own_at _ rfl (.tmp 67) (.tmp 69) 25 rfl (CB0 + 1) 9 i0 _ 1 16 Tryz.underlying25 hi hz0 hz1 hz2 rfl (by decide) (.slice la k lc) k (scells (keysI cs k)) rfl HOW.out ⟨w5.heap.size, 0, none⟩ 1 1 (scells [S]) rfl rfl HNW.out (scells_one [S]) (by unfold maxLen; omega) (by omega) HGE.out ?_)
        intro v' w7 hown7 hgrow7 _ hloc7
        have hown8 : w7.ownsRow (CB0 + 1) 9 1 v' ((keysI cs k).length + 1) (scells (keysI cs k) ++ scells [S]) := by rw [HKL.out]; exact hown7
        have hgrow8 : ((w5.setCell ⟨CB0, j, none⟩ (.int .i64 ((m : Int) + 1))).alloc (.cells #[.string S] 9)).grownBy w7 (Value.slice la (keysI cs k).length lc).ownBlock := by rw [HKL.out]; exact hgrow7
        obtain ⟨la7, lc7, rfl, hE⟩ := H6.out.key hown8 hgrow8
        rw [← HKS.out] at hE ⊢
        have HE := Lib.hid hE
        clear hown7 hgrow7 hown8 hgrow8 hloc7 hE HOW HGE HNW H6 H5 q0 q1 hfr
        rw [keysI_len]
        go_wp2_with fail
        go_roundw
        case rel => exact ⟨k + 1, la7, lc7, by omega, by first | rfl | trivial, by go_num, HE⟩
        case measure => simp [intOf]; omega
      case neg =>
        have hsp : (decide ((k : Int) < (len : Int)) = false ∧ ¬ (k : Int) < (len : Int)) ∨ ((k : Int) < (len : Int) ∧ decide ((k : Int) < 20) = false ∧ ¬ (k : Int) < 20) := by
          by_cases h1 : k < len
          · exact .inr ⟨by omega, decide_eq_false (by omega), by omega⟩
          · exact .inl ⟨decide_eq_false (by omega), by omega⟩
        have hcm := cho_may HM.out
        have HIN := Lib.hid ((mayNs_iff L).1 (mayR_ns HM.out).1).2.1
        have hu : SsAt wr (.slice la k lc) (keysI cs k) := by
          have := HI.out.own.at
          rwa [keysI_len] at this
        have HSH := Lib.hid (share_p e nw _ _ L (keysI cs k) wr HI.out.lst (by omega) hcm HIN.out hu (by rw [keysI_len]; omega) (keysI_size cs k))
        generalize pksI L nw (keysI cs k) = ps at *
        obtain ⟨⟨p0, p1, p2⟩, _⟩ := HI.out.box
        clear hgo hu hcm
        rcases hsp with ⟨t1, t3⟩ | ⟨t1, t2, t3⟩
        all_goals
          go_wp2_with fail
          clear p0 p1 p2 t1 t3
          try clear t2
          refine HSH.out.mono ?_
          rintro _ w1 ⟨sa, sc, rfl, ho1, hb1⟩
          have H1 : Hid (IsAt w1 (.slice sa L.length sc) (shI L ps) ∧ CnAt w1 CB0 L ps ∧ Below w.heap.size w w1) := Lib.hid ⟨ho1.at, HI.out.cnt.below hb1, HI.out.bl.trans (hb1.mono HI.out.bl.size)⟩
          clear ho1 hb1 HI HSH
          go_wp2_with fail
          go_loopw [14] (fun v14 wr => ∃ i : Nat, i ≤ L.length ∧ v14 = .int .i64 i ∧ Hid (IsAt wr (.slice sa L.length sc) (shI L ps) ∧ CnAt wr CB0 L ps ∧ Below w.heap.size w wr)) (fun v14 _ => L.length - (intOf v14).toNat)
          case atStart => exact ⟨0, Nat.zero_le _, rfl, H1⟩
          case round =>
            clear H1
            obtain ⟨i, hi5, rfl, HJ⟩ := hrel
            by_cases hlt : i < L.length
            · have hltz : (i : Int) < (L.length : Int) := by omega
              obtain ⟨x, hx⟩ : ∃ x, L[i]? = some x := ⟨_, List.getElem?_eq_getElem hlt⟩
              have hsx : (shI L ps)[i]? = some (cntI ps x : Int) := by
                unfold shI
                rw [List.getElem?_map, hx]
                rfl
              obtain ⟨g, o, rfl, x0⟩ := HJ.out.1.get hsx
              obtain ⟨y0, _⟩ := HJ.out.2.1.2 i x hx
              generalize cntI ps x = m at *
              clear hx hsx
              go_wp2_with fail
              go_quiet (fail)
              have H2 : Hid (IsAt (wr.drewN nq) (.slice (some ⟨g, o, none⟩) L.length sc) (shI L ps) ∧ CnAt (wr.drewN nq) CB0 L ps ∧ Below w.heap.size w (wr.drewN nq)) := Lib.hid ⟨HJ.out.1.below (below_drewN (Below.refl wr.heap.size wr) nq), HJ.out.2.1.below (below_drewN (Below.refl wr.heap.size wr) nq), below_drewN HJ.out.2.2 nq⟩
              clear x0 y0 HJ
              generalize wr.drewN nq = V3 at *
              go_wp2_with fail
              go_roundw
              case rel => exact ⟨i + 1, by omega, by go_num, H2⟩
              case measure => simp [intOf]; omega
            · obtain rfl : i = L.length := by omega
              have t1 : decide ((L.length : Int) < (L.length : Int)) = false := decide_eq_false (by omega)
              have t3 : ¬ (L.length : Int) < (L.length : Int) := by omega
              go_wp2_with fail
              go_ret
              exact ⟨rfl, HJ.out.2.2⟩

end Go.Proofs.YtmamepmfbfinlaaGreatDoor
