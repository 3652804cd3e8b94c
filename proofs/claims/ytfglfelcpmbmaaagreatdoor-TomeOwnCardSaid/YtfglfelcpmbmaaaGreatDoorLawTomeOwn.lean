/-
 Contracts of the program, and what they rest on.
-/
import Derived.Test.YtfglfelcpmbmaaaGreatDoorM03
import Derived.Test.YtfglfelcpmbmaaaGreatDoorM14
import Derived.Test.YtfglfelcpmbmaaaGreatDoorRRef2
import Derived.Test.YtfglfelcpmbmaaaGreatDoorRMark
import Derived.Test.YtfglfelcpmbmaaaGreatDoorRTomF
import Derived.Test.YtfglfelcpmbmaaaGreatDoorRBkM
import Derived.Test.YtfglfelcpmbmaaaGreatDoorRDeW
import Derived.Test.YtfglfelcpmbmaaaGreatDoorREqJ
import Derived.Test.YtfglfelcpmbmaaaGreatDoorLeA
import Derived.Test.YtfglfelcpmbmaaaGreatDoorRefTa
set_option maxRecDepth 100000
set_option maxHeartbeats 16000000
namespace Go.Proofs.YtfglfelcpmbmaaaGreatDoor
open Go.RowKit
theorem cutS_twice (s : ByteArray) (n : Nat) : cutS (cutS s n) n = cutS s n := by
 have h := cutS_size s n
 generalize cutS s n = t at *
 unfold cutS
 rw [Nat.min_eq_left h]
 apply ByteArray.ext
 rw [ByteArray.data_extract]
 exact Array.extract_size ..
theorem cutVe_twice (x : Ve) : cutVe (cutVe x) = cutVe x := by
 unfold cutVe
 dsimp only
 rw [cutS_twice]
theorem cutL_twice (l : List Ve) : cutL (cutL l) = cutL l := by
 have h : ((l.take 14).map cutVe).take 14 = (l.take 14).map cutVe := List.take_of_length_le (by simp; omega)
 show (((l.take 14).map cutVe).take 14).map cutVe = _
 rw [h, List.map_map]
 exact List.map_congr_left fun x _ => cutVe_twice x
theorem cutL_len (l : List Ve) : (cutL l).length ≤ 14 := by
 unfold cutL
 simp
 omega
theorem addE_len (l : List Ve) (x : Ve) : (addE l x).1.length ≤ l.length + 1 := by
 unfold addE
 split
 ·simp
 ·simp
theorem purgeE_len (l : List Ve) (n : Int) : (purgeE l n).1.length ≤ l.length := by
 unfold purgeE
 split
 ·simp
 ·simp
  omega
theorem cutL_bodies (l : List Ve) : ∀ y ∈ cutL l, y.body.size ≤ 302 := by
 intro y hy
 unfold cutL at hy
 obtain ⟨x, _, rfl⟩ := List.mem_map.1 hy
 exact cutS_size _ _
def w3v (w : World) (key : ByteArray) (ad : Option Addr) (n c : Nat) (x : Ve) (t t' : TypeId) : World := (w.alloc (.cells #[.string key, .slice ad n c] t)).alloc (.cells #[.int .i64 x.ver, .bool x.gone, .string x.body] t')
theorem w3v_below (w : World) (key : ByteArray) (ad : Option Addr) (n c : Nat) (x : Ve) (t t' : TypeId) : Below w.heap.size w (w3v w key ad n c x t t') := ((Below.refl _ w).alloc (Nat.le_refl _) _).alloc (by simp) _
theorem w3v_ec (w : World) (key : ByteArray) (ad : Option Addr) (n c : Nat) (x : Ve) (t t' : TypeId) : EC (w3v w key ad n c x t t') w.heap.size key (.slice ad n c) := (EC.new w key ad n c t).alloc _
theorem w3v_vc (w : World) (key : ByteArray) (ad : Option Addr) (n c : Nat) (x : Ve) (t t' : TypeId) : VC3 (w3v w key ad n c x t t') (w.heap.size + 1) x := by
 have := VC3.new (w.alloc (.cells #[.string key, .slice ad n c] t)) x t'
 rw [show (w.alloc (.cells #[.string key, .slice ad n c] t)).heap.size = w.heap.size + 1 by simp] at this
 exact this
theorem ec_put2 {w : World} {b : Nat} {key : ByteArray} {v : Value} (h : EC w b key v) (K : ByteArray) (v' : Value) : EC ((w.setCell ⟨b, 0, none⟩ (.string K)).setCell ⟨b, 1, none⟩ v') b K v' := by
 obtain ⟨⟨h0, h1⟩, f0, f1⟩ := h
 refine ⟨⟨?_, ?_⟩, ?_, ?_⟩ <;> go_simp
structure OwnS (E T A B BA BB : Nat) (K : ByteArray) (l : List Ve) (ve vt : Value) (aa ab : Option Addr) (na nb ca cb : Nat) (W : World) : Prop where
 e : EC W E K ve
 t : EC W T K vt
 a : EC W A K (.slice aa na ca)
 b : EC W B K (.slice ab nb cb)
 ve : VsAt W ve l
 vt : VsAt W vt l
 oa : ∃ la : List Ve, la.length = na ∧ VOwn W BA (.slice aa na ca) la
 ob : ∃ lb : List Ve, lb.length = nb ∧ VOwn W BB (.slice ab nb cb) lb
def ApartA (E T A B : Nat) (ve vt : Value) (ab : Option Addr) (nb cb : Nat) (g : Nat) : Prop := g ≠ E ∧ g ≠ T ∧ g ≠ A ∧ g ≠ B ∧ ve.ownBlock ≠ some g ∧ vt.ownBlock ≠ some g ∧ (Value.slice ab nb cb).ownBlock ≠ some g
theorem OwnS.turnA {E T A B BA BB : Nat} {K : ByteArray} {l : List Ve} {ve vt : Value} {ab : Option Addr} {g na nb ca cb : Nat} {W : World} (h : OwnS E T A B BA BB K l ve vt (some ⟨g, 0, none⟩) ab na nb ca cb W) (hg : ApartA E T A B ve vt ab nb cb g) {k : Nat} (hk : k < na) (s : ByteArray) :
  OwnS E T A B BA BB K l ve vt (some ⟨g, 0, none⟩) ab na nb ca cb (W.setCell ⟨g, k * 3 + 2, none⟩ (.string s)) := by
 obtain ⟨h1, h2, h3, h4, h5, h6, h7⟩ := hg
 have hb : ∀ j, j ≠ g → (W.setCell ⟨g, k * 3 + 2, none⟩ (.string s)).heap[j]? = W.heap[j]? := fun j hj => Below.heap_setCell _ _ _ _ (by simpa using hj)
 obtain ⟨la, hla, ho⟩ := h.oa
 obtain ⟨x, hx⟩ : ∃ x, la[k]? = some x := ⟨_, List.getElem?_eq_getElem (by omega)⟩
 refine ⟨h.e.kept (hb E (Ne.symm h1)), h.t.kept (hb T (Ne.symm h2)), h.a.kept (hb A (Ne.symm h3)), h.b.kept (hb B (Ne.symm h4)), h.ve.kept (by simp) (fun j hj => hb j (fun e => h5 (e ▸ hj))), h.vt.kept (by simp) (fun j hj => hb j (fun e => h6 (e ▸ hj))), ⟨_, by rw [List.length_set]; exact hla, vown_set ho hx s⟩, ?_⟩
 obtain ⟨lb, hlb, hob⟩ := h.ob
 exact ⟨lb, hlb, hob.kept (fun j hj => hb j (fun e => h7 (e ▸ hj)))⟩
theorem OwnS.turnB {E T A B BA BB : Nat} {K : ByteArray} {l : List Ve} {ve vt : Value} {aa : Option Addr} {g na nb ca cb : Nat} {W : World} (h : OwnS E T A B BA BB K l ve vt aa (some ⟨g, 0, none⟩) na nb ca cb W) (hg : ApartA E T A B ve vt aa na ca g) {k : Nat} (hk : k < nb) (s : ByteArray) :
  OwnS E T A B BA BB K l ve vt aa (some ⟨g, 0, none⟩) na nb ca cb (W.setCell ⟨g, k * 3 + 2, none⟩ (.string s)) := by
 obtain ⟨h1, h2, h3, h4, h5, h6, h7⟩ := hg
 have hb : ∀ j, j ≠ g → (W.setCell ⟨g, k * 3 + 2, none⟩ (.string s)).heap[j]? = W.heap[j]? := fun j hj => Below.heap_setCell _ _ _ _ (by simpa using hj)
 obtain ⟨lb, hlb, ho⟩ := h.ob
 obtain ⟨x, hx⟩ : ∃ x, lb[k]? = some x := ⟨_, List.getElem?_eq_getElem (by omega)⟩
 obtain ⟨la, hla, hoa⟩ := h.oa
 exact ⟨h.e.kept (hb E (Ne.symm h1)), h.t.kept (hb T (Ne.symm h2)), h.a.kept (hb A (Ne.symm h3)), h.b.kept (hb B (Ne.symm h4)), h.ve.kept (by simp) (fun j hj => hb j (fun e => h5 (e ▸ hj))), h.vt.kept (by simp) (fun j hj => hb j (fun e => h6 (e ▸ hj))), ⟨la, hla, hoa.kept (fun j hj => hb j (fun e => h7 (e ▸ hj)))⟩, ⟨_, by rw [List.length_set]; exact hlb, vown_set ho hx s⟩⟩
theorem tomeOwn_walk (key : ByteArray) (v : Value) (l0 : List Ve) (x : Ve) (n : Int) (w : World) (hbg : Begun5True) (h : LibAt w) (hv : VsAt w v l0) (hn : l0.length ≤ 9223372036854775807) :
  Calls Tryz.prog 7 #[.agg #[.string key, v], .agg #[.int .i64 x.ver, .bool x.gone, .string x.body], .int .i64 n] w fun e w' => e = .returned (.bool true) ∧ Below w.heap.size w w' := by
 obtain ⟨ad, cap, rfl, _⟩ := hv.shape
 have HB0 := Lib.hid (w3v_below w key ad l0.length cap x 59 61)
 have HE0 := Lib.hid (w3v_ec w key ad l0.length cap x 59 61)
 have HX0 := Lib.hid (w3v_vc w key ad l0.length cap x 59 61)
 unfold w3v at HB0 HE0 HX0
 have HV0 := Lib.hid (hv.below HB0.out)
 have HB := Lib.hid (hbg _ (h.below HB0.out))
 clear hbg h hv
 go_enter Tryz.func7, Tryz.ntmps7
 go_wp2_with fail
 refine HB.out.mono ?_
 rintro _ w0 ⟨rfl, hb1⟩
 have HE1 := Lib.hid (HE0.out.below hb1)
 have HX1 := Lib.hid (HX0.out.below hb1)
 have HV1 := Lib.hid (HV0.out.below hb1)
 have HB1 := Lib.hid (HB0.out.trans (hb1.mono HB0.out.size))
 clear hb1 HE0 HX0 HV0 HB0 HB
 obtain ⟨⟨c0, c1⟩, f0, f1⟩ := HE1.out
 go_wp2_with fail
 refine (lentry_p key _ l0 _ HV1.out hn).mono ?_
 rintro _ w1 ⟨ae, ce, rfl, hoe, hb2⟩
 have hlen := cutL_len l0
 have htw := cutL_twice l0
 have hkt := cutS_twice key 42
 generalize cutL l0 = l at *
 generalize cutS key 42 = K at *
 have HE2 := Lib.hid (HE1.out.below hb2)
 have HX2 := Lib.hid (HX1.out.below hb2)
 have HB2 := Lib.hid (HB1.out.trans (hb2.mono HB1.out.size))
 have HOE := Lib.hid (And.intro hoe (And.intro hlen (And.intro htw (And.intro hkt HB1.out.size))))
 have hs0 : w.heap.size < w0.heap.size := HE1.out.lt
 clear hb2 hoe hlen htw hkt HE1 HX1 HV1 HB1 c0 c1 f0 f1
 obtain ⟨⟨c0, c1⟩, f0, f1⟩ := HE2.out
 go_wp2_with fail
 have hW2 : ∀ g, g ≠ w.heap.size → ((w1.setCell ⟨w.heap.size, 0, none⟩ (.string K)).setCell ⟨w.heap.size, 1, none⟩ (.slice ae l.length ce)).heap[g]? = w1.heap[g]? := fun g hg => by
  rw [Below.heap_setCell _ _ _ _ (by simpa using hg), Below.heap_setCell _ _ _ _ (by simpa using hg)]
 have HE3 := Lib.hid (ec_put2 HE2.out K (.slice ae l.length ce))
 have HX3 := Lib.hid (HX2.out.kept (hW2 _ (by omega)))
 have HOE3 := Lib.hid (HOE.out.1.kept (fun g hg => hW2 g (by have := (HOE.out.1.lt hg).1; omega)))
 have HB3 := Lib.hid ((HB2.out.setCell (p := ⟨w.heap.size, 0, none⟩) (Nat.le_refl _) (.string K)).setCell (p := ⟨w.heap.size, 1, none⟩) (Nat.le_refl _) (.slice ae l.length ce))
 have HSZ : Hid (w1.heap.size = ((w1.setCell ⟨w.heap.size, 0, none⟩ (.string K)).setCell ⟨w.heap.size, 1, none⟩ (.slice ae l.length ce)).heap.size ∧ (∀ g, (Value.slice ae l.length ce).ownBlock = some g → w.heap.size < g ∧ g < w1.heap.size) ∧ w.heap.size < w1.heap.size) := Lib.hid ⟨by simp, fun g hg => by have := HOE.out.1.lt hg; omega, HE2.out.lt⟩
 clear c0 c1 f0 f1 HE2 HX2 HB2 hW2
 generalize (w1.setCell ⟨w.heap.size, 0, none⟩ (.string K)).setCell ⟨w.heap.size, 1, none⟩ (.slice ae l.length ce) = W2 at *
 have hLE := lentry_p K _ l W2 HOE3.out.at (by have := HOE.out.2.1; omega)
 rw [HOE.out.2.2.1, HOE.out.2.2.2.1] at hLE
 refine hLE.mono ?_
 rintro _ w3 ⟨at', ct, rfl, hot, hb3⟩
 clear hLE
 have hb4 : Below W2.heap.size W2 (w3.alloc (.cells #[.string K, .slice at' l.length ct] 59)) := hb3.alloc hb3.size _
 have hT := EC.new w3 K at' l.length ct 59
 have HE4 := Lib.hid (HE3.out.below hb4)
 have HX4 := Lib.hid (HX3.out.below hb4)
 have HV4 := Lib.hid (HOE3.out.at.below hb4)
 have HT4 := Lib.hid hT
 have HVT4 := Lib.hid (hot.at.below ((Below.refl _ w3).alloc (Nat.le_refl _) (.cells #[.string K, .slice at' l.length ct] 59)))
 have HB4 := Lib.hid (HB3.out.trans (hb4.mono HB3.out.size))
 have HS4 : Hid (W2.heap.size ≤ w3.heap.size ∧ (w3.alloc (.cells #[.string K, .slice at' l.length ct] 59)).heap.size = w3.heap.size + 1 ∧ (∀ g, (Value.slice at' l.length ct).ownBlock = some g → g < w3.heap.size)) := Lib.hid ⟨hb3.size, by simp, fun g hg => (hot.lt hg).2⟩
 clear hb3 hb4 hT hot HE3 HX3 HOE3 HB3
 obtain ⟨⟨c0, c1⟩, _⟩ := HE4.out
 obtain ⟨⟨x0, x1, x2⟩, _⟩ := HX4.out
 go_wp2_with fail
 generalize hW4 : w3.alloc (.cells #[.string K, .slice at' l.length ct] 59) = W4 at *
 generalize w3.heap.size = T at *
 clear hW4
 refine (add_p K _ l x W4 HV4.out (by have := HOE.out.2.1; omega)).mono ?_
 rintro _ w5 ⟨aa, ca, rfl, hoa, hb5⟩
 have h15 := addE_len l x
 have h14 := purgeE_len l n
 generalize addE l x = ra at *
 obtain ⟨la, oka⟩ := ra
 dsimp only at hoa h15 ⊢
 have hb6 : Below W4.heap.size W4 (w5.alloc (.cells #[.string K, .slice aa la.length ca] 59)) := hb5.alloc hb5.size _
 have HA6 := Lib.hid (EC.new w5 K aa la.length ca 59)
 have HE6 := Lib.hid (HE4.out.below hb6)
 have HV6 := Lib.hid (HV4.out.below hb6)
 have HT6 := Lib.hid (HT4.out.below hb6)
 have HVT6 := Lib.hid (HVT4.out.below hb6)
 have HOA6 := Lib.hid (hoa.below ((Below.refl _ w5).alloc (Nat.le_refl _) (.cells #[.string K, .slice aa la.length ca] 59)))
 have HB6 := Lib.hid (HB4.out.trans (hb6.mono HB4.out.size))
 have HS6 : Hid (W4.heap.size ≤ w5.heap.size ∧ (w5.alloc (.cells #[.string K, .slice aa la.length ca] 59)).heap.size = w5.heap.size + 1 ∧ (∀ g, (Value.slice aa la.length ca).ownBlock = some g → W4.heap.size ≤ g ∧ g < w5.heap.size)) := Lib.hid ⟨hb5.size, by simp, fun g hg => hoa.lt hg⟩
 clear hb5 hb6 hoa HE4 HX4 HV4 HT4 HVT4 HB4 c0 c1 x0 x1 x2
 obtain ⟨⟨c0, c1⟩, _⟩ := HE6.out
 go_wp2_with fail
 generalize hW6 : w5.alloc (.cells #[.string K, .slice aa la.length ca] 59) = W6 at *
 generalize w5.heap.size = A at *
 clear hW6
 refine (tpurge_p K _ l n W6 HV6.out (by have := HOE.out.2.1; omega)).mono ?_
 rintro _ w7 ⟨ab, cb, rfl, hob, hb7⟩
 generalize purgeE l n = rb at *
 obtain ⟨lb, okb⟩ := rb
 dsimp only at hob h14 ⊢
 have hb8 : Below W6.heap.size W6 (w7.alloc (.cells #[.string K, .slice ab lb.length cb] 59)) := hb7.alloc hb7.size _
 have HO : Hid (OwnS w.heap.size T A w7.heap.size W4.heap.size W6.heap.size K l (.slice ae l.length ce) (.slice at' l.length ct) aa ab la.length lb.length ca cb (w7.alloc (.cells #[.string K, .slice ab lb.length cb] 59))) := Lib.hid ⟨HE6.out.below hb8, HT6.out.below hb8, HA6.out.below hb8, EC.new w7 K ab lb.length cb 59, HV6.out.below hb8, HVT6.out.below hb8, ⟨la, rfl, HOA6.out.below hb8⟩, ⟨lb, rfl, hob.below ((Below.refl _ w7).alloc (Nat.le_refl _) _)⟩⟩
 have HB8 := Lib.hid (HB6.out.trans (hb8.mono HB6.out.size))
 have hsz7 : W6.heap.size ≤ w7.heap.size := hb7.size
 have HGA : Hid (∀ g, (Value.slice aa la.length ca).ownBlock = some g → w.heap.size ≤ g ∧ ApartA w.heap.size T A w7.heap.size (.slice ae l.length ce) (.slice at' l.length ct) ab lb.length cb g) := Lib.hid (fun g hg => by
  have k1 := HS6.out.2.2 g hg
  have k2 := HS4.out
  have k3 := HS6.out
  have k4 := HSZ.out
  refine ⟨by omega, by omega, by omega, by omega, by omega, fun e => ?_, fun e => ?_, fun e => ?_⟩
  ·have := k4.2.1 g e; omega
  ·have := k2.2.2 g e; omega
  ·have := (hob.lt e).1; omega)
 have HGB : Hid (∀ g, (Value.slice ab lb.length cb).ownBlock = some g → w.heap.size ≤ g ∧ ApartA w.heap.size T A w7.heap.size (.slice ae l.length ce) (.slice at' l.length ct) aa la.length ca g) := Lib.hid (fun g hg => by
  have k1 := hob.lt hg
  have k2 := HS4.out
  have k3 := HS6.out
  have k4 := HSZ.out
  refine ⟨by omega, by omega, by omega, by omega, by omega, fun e => ?_, fun e => ?_, fun e => ?_⟩
  ·have := k4.2.1 g e; omega
  ·have := k2.2.2 g e; omega
  ·have := k3.2.2 g e; omega)
 have hE9 := HO.out.e
 have hsl : l.length ≤ 14 := HOE.out.2.1
 clear hb7 hb8 hob HE6 HV6 HT6 HVT6 HOA6 HB6 HA6 c0 c1 HS4 HS6 HSZ HOE
 go_wp2_with fail
 clear hE9 hsz7
 generalize w7.alloc (.cells #[.string K, .slice ab lb.length cb] 59) = W8 at *
 generalize w7.heap.size = B at *
 generalize W4.heap.size = BA at *
 generalize W6.heap.size = BB at *
 generalize hna : la.length = na at *
 generalize hnb : lb.length = nb at *
 clear hna hnb
 generalize hne : l.length = ne at *
 have HNE := Lib.hid hne
 clear hne
 go_loopw [13] (fun i wr => ∃ k : Nat, i = .int .i64 k ∧ k ≤ na ∧ Hid (OwnS w.heap.size T A B BA BB K l (.slice ae ne ce) (.slice at' ne ct) aa ab na nb ca cb wr) ∧ Hid (Below w.heap.size w wr)) (fun i _ => na - (intOf i).toNat)
 case atStart => exact ⟨0, rfl, Nat.zero_le _, HO, HB8⟩
 case round =>
  obtain ⟨k, rfl, hk, HS, HBW⟩ := hrel
  obtain ⟨⟨a0, a1⟩, _⟩ := HS.out.a
  obtain ⟨⟨c0, c1⟩, _⟩ := HS.out.e
  by_cases hlt : k < na ∧ ne < na
  ·have t1 : (k : Int) < (na : Int) := by omega
   have t2 : (ne : Int) < (na : Int) := by omega
   obtain ⟨la', hla, hoa⟩ := HS.out.oa
   obtain ⟨g, cc, hsl2⟩ := vown_row hoa (by omega)
   simp only [Value.slice.injEq] at hsl2
   obtain ⟨rfl, -, rfl⟩ := hsl2
   obtain ⟨y, hy⟩ : ∃ y, la'[k]? = some y := ⟨_, List.getElem?_eq_getElem (by omega)⟩
   obtain ⟨y0, y1, y2⟩ := vown_get hoa hy
   have fy := vown_free hoa (k * 3 + 2)
   have HT := Lib.hid (HS.out.turnA (HGA.out g rfl).2 hlt.1 ⟨#[116, 117, 114, 110, 101, 100]⟩)
   have HBT := Lib.hid (HBW.out.setCell (p := ⟨g, k * 3 + 2, none⟩) (HGA.out g rfl).1 (.string ⟨#[116, 117, 114, 110, 101, 100]⟩))
   clear hlt hoa hla hy
   go_wp2_with fail
   go_roundw
   case rel => exact ⟨k + 1, by go_num, by omega, HT, HBT⟩
   case measure => simp [intOf]; omega
  ·have HS2 := Lib.hid HS.out
   by_cases t : k < na
   ·have t1 : (k : Int) < (na : Int) := by omega
    have t2 : decide ((ne : Int) < (na : Int)) = false := decide_eq_false (by omega)
    have t3 : ¬ (ne : Int) < (na : Int) := by omega
    clear hlt
    go_wp2_with fail
    go_loopw [14] (fun i wr => ∃ k : Nat, i = .int .i64 k ∧ k ≤ nb ∧ Hid (OwnS w.heap.size T A B BA BB K l (.slice ae ne ce) (.slice at' ne ct) aa ab na nb ca cb wr) ∧ Hid (Below w.heap.size w wr)) (fun i _ => nb - (intOf i).toNat)
    case atStart => exact ⟨0, rfl, Nat.zero_le _, HS2, HBW⟩
    case round =>
     obtain ⟨k2, rfl, hk2, HS3, HBW3⟩ := hrel
     obtain ⟨⟨b0, b1⟩, _⟩ := HS3.out.b
     obtain ⟨⟨c0, c1⟩, _⟩ := HS3.out.e
     by_cases hlt2 : k2 < nb ∧ nb < ne
     ·have t1 : (k2 : Int) < (nb : Int) := by omega
      have t2 : (nb : Int) < (ne : Int) := by omega
      obtain ⟨lb', hlb, hob⟩ := HS3.out.ob
      obtain ⟨g, cc, hsl2⟩ := vown_row hob (by omega)
      simp only [Value.slice.injEq] at hsl2
      obtain ⟨rfl, -, rfl⟩ := hsl2
      obtain ⟨y, hy⟩ : ∃ y, lb'[k2]? = some y := ⟨_, List.getElem?_eq_getElem (by omega)⟩
      obtain ⟨y0, y1, y2⟩ := vown_get hob hy
      have fy := vown_free hob (k2 * 3 + 2)
      have HT := Lib.hid (HS3.out.turnB (HGB.out g rfl).2 hlt2.1 ⟨#[116, 117, 114, 110, 101, 100]⟩)
      have HBT := Lib.hid (HBW3.out.setCell (p := ⟨g, k2 * 3 + 2, none⟩) (HGB.out g rfl).1 (.string ⟨#[116, 117, 114, 110, 101, 100]⟩))
      clear hlt2 hob hlb hy
      go_wp2_with fail
      go_roundw
      case rel => exact ⟨k2 + 1, by go_num, by omega, HT, HBT⟩
      case measure => simp [intOf]; omega
     ·obtain ⟨⟨e0, e1⟩, _⟩ := HS3.out.t
      have HQ := Lib.hid (reqe_p K K (.slice ae ne ce) (.slice at' ne ct) l l wr HS3.out.ve HS3.out.vt (by rw [HNE.out]; omega) (by rw [HNE.out]; omega) true ⟨fun _ => ⟨rfl, rfl⟩, fun _ => rfl⟩)
      by_cases tt : k2 < nb
      ·have t1 : (k2 : Int) < (nb : Int) := by omega
       have t2 : decide ((nb : Int) < (ne : Int)) = false := decide_eq_false (by omega)
       have t3 : ¬ (nb : Int) < (ne : Int) := by omega
       clear hlt2
       go_wp2_with fail
       refine HQ.out.mono ?_
       rintro _ w9 ⟨rfl, hb9⟩
       have HB9 := Lib.hid (HBW3.out.trans (hb9.mono HBW3.out.size))
       clear hb9
       go_wp2_with fail
       go_ret
       exact ⟨rfl, HB9.out⟩
      ·have t1 : decide ((k2 : Int) < (nb : Int)) = false := decide_eq_false (by omega)
       have t2 : ¬ (k2 : Int) < (nb : Int) := by omega
       clear hlt2
       go_wp2_with fail
       refine HQ.out.mono ?_
       rintro _ w9 ⟨rfl, hb9⟩
       have HB9 := Lib.hid (HBW3.out.trans (hb9.mono HBW3.out.size))
       clear hb9
       go_wp2_with fail
       go_ret
       exact ⟨rfl, HB9.out⟩
   ·have t1 : decide ((k : Int) < (na : Int)) = false := decide_eq_false (by omega)
    have t2 : ¬ (k : Int) < (na : Int) := by omega
    clear hlt
    go_wp2_with fail
    go_loopw [14] (fun i wr => ∃ k : Nat, i = .int .i64 k ∧ k ≤ nb ∧ Hid (OwnS w.heap.size T A B BA BB K l (.slice ae ne ce) (.slice at' ne ct) aa ab na nb ca cb wr) ∧ Hid (Below w.heap.size w wr)) (fun i _ => nb - (intOf i).toNat)
    case atStart => exact ⟨0, rfl, Nat.zero_le _, HS2, HBW⟩
    case round =>
     obtain ⟨k2, rfl, hk2, HS3, HBW3⟩ := hrel
     obtain ⟨⟨b0, b1⟩, _⟩ := HS3.out.b
     obtain ⟨⟨c0, c1⟩, _⟩ := HS3.out.e
     by_cases hlt2 : k2 < nb ∧ nb < ne
     ·have t1 : (k2 : Int) < (nb : Int) := by omega
      have t2 : (nb : Int) < (ne : Int) := by omega
      obtain ⟨lb', hlb, hob⟩ := HS3.out.ob
      obtain ⟨g, cc, hsl2⟩ := vown_row hob (by omega)
      simp only [Value.slice.injEq] at hsl2
      obtain ⟨rfl, -, rfl⟩ := hsl2
      obtain ⟨y, hy⟩ : ∃ y, lb'[k2]? = some y := ⟨_, List.getElem?_eq_getElem (by omega)⟩
      obtain ⟨y0, y1, y2⟩ := vown_get hob hy
      have fy := vown_free hob (k2 * 3 + 2)
      have HT := Lib.hid (HS3.out.turnB (HGB.out g rfl).2 hlt2.1 ⟨#[116, 117, 114, 110, 101, 100]⟩)
      have HBT := Lib.hid (HBW3.out.setCell (p := ⟨g, k2 * 3 + 2, none⟩) (HGB.out g rfl).1 (.string ⟨#[116, 117, 114, 110, 101, 100]⟩))
      clear hlt2 hob hlb hy
      go_wp2_with fail
      go_roundw
      case rel => exact ⟨k2 + 1, by go_num, by omega, HT, HBT⟩
      case measure => simp [intOf]; omega
     ·obtain ⟨⟨e0, e1⟩, _⟩ := HS3.out.t
      have HQ := Lib.hid (reqe_p K K (.slice ae ne ce) (.slice at' ne ct) l l wr HS3.out.ve HS3.out.vt (by rw [HNE.out]; omega) (by rw [HNE.out]; omega) true ⟨fun _ => ⟨rfl, rfl⟩, fun _ => rfl⟩)
      by_cases tt : k2 < nb
      ·have t1 : (k2 : Int) < (nb : Int) := by omega
       have t2 : decide ((nb : Int) < (ne : Int)) = false := decide_eq_false (by omega)
       have t3 : ¬ (nb : Int) < (ne : Int) := by omega
       clear hlt2
       go_wp2_with fail
       refine HQ.out.mono ?_
       rintro _ w9 ⟨rfl, hb9⟩
       have HB9 := Lib.hid (HBW3.out.trans (hb9.mono HBW3.out.size))
       clear hb9
       go_wp2_with fail
       go_ret
       exact ⟨rfl, HB9.out⟩
      ·have t1 : decide ((k2 : Int) < (nb : Int)) = false := decide_eq_false (by omega)
       have t2 : ¬ (k2 : Int) < (nb : Int) := by omega
       clear hlt2
       go_wp2_with fail
       refine HQ.out.mono ?_
       rintro _ w9 ⟨rfl, hb9⟩
       have HB9 := Lib.hid (HBW3.out.trans (hb9.mono HBW3.out.size))
       clear hb9
       go_wp2_with fail
       go_ret
       exact ⟨rfl, HB9.out⟩
end Go.Proofs.YtfglfelcpmbmaaaGreatDoor
