/-
  LeanNew answers true.
-/
import Derived.Test.YtmamepmfbfinlaaGreatDoorLnR
namespace Go.Proofs.YtmamepmfbfinlaaGreatDoor
open Go.RowKit Go.Proofs.Cpl

theorem has_ix {l : List Int} {n : Int} (h : n ∈ l) : 0 ≤ ixI l n := by
  have := (has_mem l n).2 h
  unfold hasI at this
  exact of_decide_eq_true this

/-- Who is picked of a chain that may be. -/
theorem pick_of {e : Int} {l : List Int} {nw : Int} (z : Int × Int) (h : mayR ⟨e, l, nw⟩ = true) : (choI l nw ≠ [] ∨ l = []) ∧ (1 ≤ pickI z l nw ∧ pickI z l nw ≤ 5) ∧ pickI z l nw ≠ nw ∧ pickI z l nw ∈ l := by
  obtain ⟨x, hx⟩ := cho_some h
  have hb := pick_best (z := z) hx
  have := (cho_mem l nw _).1 hb.1
  exact ⟨cho_ne hx, this.1, this.2.1, this.2.2⟩

set_option maxRecDepth 100000 in
set_option maxHeartbeats 16000000 in
theorem leanNew_walk (e nw : Int) (v : Value) (l : List Int) (s : ByteArray) (w : World) (hB : BegunTrue14) (hlib : LibAt w) (h : IsAt w v l) (hn : l.length ≤ 9223372036854775807) :
    Calls Tryz.prog 5 #[.agg #[.int .i64 e, v, .int .i64 nw], .string s] w fun r w' => r = .returned (.bool true) ∧ Below w.heap.size w w' := by
  obtain ⟨ad, cap, rfl, _⟩ := h.shape
  have HB0 := Lib.hid (ro_below w e (.slice ad l.length cap) nw 24)
  have HC0 := Lib.hid (cb_new w ⟨e, l, nw⟩ ad cap h)
  have HBG := Lib.hid (hB _ (hlib.below HB0.out))
  have HCU := Lib.hid (cut_any s 40)
  have hS : (cutS s 40).size ≤ maxLen := by have := cutS_size s 40; unfold maxLen; omega
  generalize cutS s 40 = S at *
  have HS := Lib.hid hS
  have hL7 : (l.take 7).length ≤ 7 := by rw [List.length_take]; omega
  clear h hS hB hlib
  go_enter Tryz.func5, Tryz.ntmps5
  go_wp2_with fail
  generalize w.alloc (.cells #[.int .i64 e, .slice ad l.length cap, .int .i64 nw] 24) = W at *
  refine HBG.out.mono ?_
  rintro _ W1 ⟨rfl, hb⟩
  replace HC0 := Lib.hid (HC0.out.below hb)
  replace HB0 := Lib.hid (HB0.out.trans (hb.mono HB0.out.size))
  clear hb HBG
  obtain ⟨⟨p0, p1, p2⟩, _⟩ := HC0.out.c
  dsimp only at p0 p1 p2
  go_wp2_with fail
  clear p0 p1 p2
  refine (lroster_p e nw _ l W1 HC0.out.v hn).mono ?_
  rintro _ W2 ⟨a2, c2, rfl, ho, hy⟩
  generalize l.take 7 = L at *
  have HP := Lib.hid (box_put HC0.out HB0.out ho hy (e := e) (nw := nw))
  have HC2 := Lib.hid (HC0.out.below hy)
  clear ho hy HC0 HB0
  obtain ⟨⟨p0, p1, p2⟩, f0, f1, f2⟩ := HC2.out.c
  dsimp only at p0 p1 p2
  go_wp2_with fail
  clear p0 p1 p2 f0 f1 f2 HC2
  generalize ((W2.setCell ⟨w.heap.size, 0, none⟩ (.int .i64 e)).setCell ⟨w.heap.size, 1, none⟩ (.slice a2 L.length c2)).setCell ⟨w.heap.size, 2, none⟩ (.int .i64 nw) = V at *
  have HC := Lib.hid HP.out.1
  have HB := Lib.hid HP.out.2.2
  clear HP
  refine (HCU.out V).mono ?_
  rintro _ _ ⟨rfl, rfl⟩
  obtain ⟨⟨p0, p1, p2⟩, _⟩ := HC.out.c
  dsimp only at p0 p1 p2
  go_wp2_with fail
  refine (rmayr_p e nw _ L V HC.out.v (by omega)).mono ?_
  cases hm : mayR ⟨e, L, nw⟩ with
  | false =>
    rintro _ V1 ⟨rfl, hb⟩
    replace HB := Lib.hid (HB.out.trans (hb.mono HB.out.size))
    clear hb p0 p1 p2 hm
    go_wp2_with fail
    go_ret
    exact ⟨rfl, HB.out⟩
  | true =>
    have HPI := Lib.hid (pick_of (mkI S) hm)
    rintro _ V1 ⟨rfl, hb⟩
    replace HC := Lib.hid (HC.out.below hb)
    replace HB := Lib.hid (HB.out.trans (hb.mono HB.out.size))
    clear hb p0 p1 p2 hm
    obtain ⟨⟨p0, p1, p2⟩, _⟩ := HC.out.c
    dsimp only at p0 p1 p2
    have HPP := Pick_p e nw _ L S HS.out V1 HC.out.v (by omega) HPI.out.1
    generalize pickI (mkI S) L nw = P at *
    replace HPP := Lib.hid HPP
    have hz : (P != 0) = true := by rw [bne_iff_ne]; have := HPI.out.2.1; omega
    have hq : (P != nw) = true := by rw [bne_iff_ne]; exact HPI.out.2.2.1
    have HX := Lib.hid (has_ix HPI.out.2.2.2)
    go_wp2_with fail
    clear p0 p1 p2
    refine HPP.out.mono ?_
    rintro _ V2 ⟨rfl, hb⟩
    replace HC := Lib.hid (HC.out.below hb)
    replace HB := Lib.hid (HB.out.trans (hb.mono HB.out.size))
    clear hb HPP
    obtain ⟨⟨p0, p1, p2⟩, _⟩ := HC.out.c
    dsimp only at p0 p1 p2
    go_wp2_with fail
    clear p0 p1 p2
    refine (spot_p e nw P _ L V2 HC.out.v (by omega)).mono ?_
    have hx := HX.out
    generalize ixI L P = j at *
    rintro _ V3 ⟨rfl, hb⟩
    replace HB := Lib.hid (HB.out.trans (hb.mono HB.out.size))
    clear hb
    go_wp2_with fail
    go_ret
    exact ⟨rfl, HB.out⟩

end Go.Proofs.YtmamepmfbfinlaaGreatDoor
