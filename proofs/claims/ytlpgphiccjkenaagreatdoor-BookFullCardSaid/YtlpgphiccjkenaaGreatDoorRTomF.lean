/-
 Contracts of the program, and what they rest on.
-/
import Derived.Test.YtlpgphiccjkenaaGreatDoorM11
import Derived.Test.YtlpgphiccjkenaaGreatDoorRTomC
import Derived.Test.YtlpgphiccjkenaaGreatDoorRTomE
set_option maxRecDepth 100000
set_option maxHeartbeats 16000000
namespace Go.Proofs.YtlpgphiccjkenaaGreatDoor
open Go.RowKit
structure Pur0 (w W : World) (key : ByteArray) (v : Value) (l : List Ve) : Prop where
 sz : w.heap.size + 2 ≤ W.heap.size
 bl : Below w.heap.size w W
 er : EC W (w.heap.size + 1) ⟨#[]⟩ (.slice none 0 0)
 ec : EC W w.heap.size key v
 vs : VsAt W v l
theorem Pur0.below {w W W' : World} {key : ByteArray} {v : Value} {l : List Ve} (h : Pur0 w W key v l) (hb : Below W.heap.size W W') : Pur0 w W' key v l :=
 ⟨Nat.le_trans h.sz hb.size, h.bl.trans (hb.mono h.bl.size), h.er.below hb, h.ec.below hb, h.vs.below hb⟩
theorem Pur0.drew {w W : World} {key : ByteArray} {v : Value} {l : List Ve} (h : Pur0 w W key v l) : Pur0 w W.drew key v l := h.below (Below.refl W.heap.size W).drew
theorem Pur0.alloc {w W : World} {key : ByteArray} {v : Value} {l : List Ve} (h : Pur0 w W key v l) (o : Obj) : Pur0 w (W.alloc o) key v l := h.below ((Below.refl W.heap.size W).alloc (Nat.le_refl _) o)
theorem EX.below {w w' : World} {X : Nat} (h : EX w X) (hb : Below w.heap.size w w') : EX w' X := (hb.block X h.lt).trans h
theorem EX.after {W w1 : World} (hb : Below (W.alloc (.cells #[.string ⟨#[]⟩, .slice none 0 0] 45)).heap.size (W.alloc (.cells #[.string ⟨#[]⟩, .slice none 0 0] 45)) w1) : EX w1 W.heap.size :=
 EX.below (w := W.alloc (.cells #[.string ⟨#[]⟩, .slice none 0 0] 45)) (heap_alloc_new W _) hb
theorem EX.ec {w : World} {X : Nat} (h : EX w X) : EC w X ⟨#[]⟩ (.slice none 0 0) := by
 unfold EX at h
 refine ⟨⟨?_, ?_⟩, ?_, ?_⟩
 ·unfold World.cell?; simp only [h]; rfl
 ·unfold World.cell?; simp only [h]; rfl
 ·simp [World.frozen?, h]
 ·simp [World.frozen?, h]
theorem apart2 {a X : Nat} (h : a + 2 ≤ X) : ¬ a = X ∧ ¬ X = a := ⟨by omega, by omega⟩
theorem PurS.below {w W W' : World} {X : Nat} {key : ByteArray} {v' : Value} {l : List Ve} (h : PurS w W X key v' l) (hb : Below W.heap.size W W') : PurS w W' X key v' l :=
 ⟨h.ex.below hb, h.own.below hb, h.bl.trans (hb.mono h.bl.size), h.hX, h.ne, h.er.below hb⟩
theorem Pur0.late {w w1 : World} {key : ByteArray} {v : Value} {l : List Ve} {ad' : Option Addr} {n cap' : Nat} (h : Pur0 w w1 key v l) (ho : VOwn w1 (w.heap.size + 2) (.slice ad' n cap') l) (t : TypeId) :
  PurS w (w1.alloc (.cells #[.string key, .slice ad' n cap'] t)) w1.heap.size key (.slice ad' n cap') l := by
 have h2 := h.alloc (.cells #[.string key, .slice ad' n cap'] t)
 refine ⟨EC.new w1 key ad' n cap' t, ho.below ((Below.refl _ _).alloc (Nat.le_refl _) _), h2.bl, h.sz, fun e => ?_, h2.er⟩
 have := (ho.lt e).2
 omega
theorem Pur0.early {w w1 : World} {X : Nat} {key : ByteArray} {v : Value} {l : List Ve} {ad' : Option Addr} {n cap' : Nat} (h : Pur0 w w1 key v l) (ho : VOwn w1 (w.heap.size + 2) (.slice ad' n cap') l) (hx : EX w1 X) (hX : w.heap.size + 2 ≤ X) :
  PurS w ((w1.setCell ⟨X, 0, none⟩ (.string key)).setCell ⟨X, 1, none⟩ (.slice ad' n cap')) X key (.slice ad' n cap') l := by
 have hne := hx.ne ho
 obtain ⟨⟨e0, e1⟩, f0, f1⟩ := hx.ec
 have same : ∀ k, k ≠ X → ((w1.setCell ⟨X, 0, none⟩ (.string key)).setCell ⟨X, 1, none⟩ (.slice ad' n cap')).heap[k]? = w1.heap[k]? := fun k hk => by
  rw [Below.heap_setCell _ _ _ _ hk, Below.heap_setCell _ _ _ _ hk]
 refine ⟨⟨⟨?_, ?_⟩, ?_, ?_⟩, ho.kept fun g hg => same g (fun e => hne (by rw [hg, e])), (h.bl.setCell (p := ⟨X, 0, none⟩) (by simp; omega) _).setCell (p := ⟨X, 1, none⟩) (by simp; omega) _, hX, hne, h.er.kept (same _ (by omega))⟩
 ·go_simp
 ·go_simp
 ·go_simp
 ·go_simp
theorem pur_start (w : World) (key : ByteArray) (ad : Option Addr) (n c : Nat) (l : List Ve) (t : TypeId) (h : VsAt w (.slice ad n c) l) :
  Pur0 w ((w.alloc (.cells #[.string key, .slice ad n c] t)).alloc (.cells #[.string ⟨#[]⟩, .slice none 0 0] t)) key (.slice ad n c) l := by
 have hb : Below w.heap.size w ((w.alloc (.cells #[.string key, .slice ad n c] t)).alloc (.cells #[.string ⟨#[]⟩, .slice none 0 0] t)) := ((Below.refl _ w).alloc (Nat.le_refl _) _).alloc (by simp) _
 refine ⟨by simp, hb, ?_, (EC.new w key ad n c t).alloc _, h.below hb⟩
 have := EC.new (w.alloc (.cells #[.string key, .slice ad n c] t)) ⟨#[]⟩ none 0 0 t
 rw [show (w.alloc (.cells #[.string key, .slice ad n c] t)).heap.size = w.heap.size + 1 by simp] at this
 exact this
theorem ent_answer2 {w W : World} {key : ByteArray} {v' : Value} {l : List Ve} {B : Nat} (b : Nat) (hb0 : w.heap.size ≤ b) (hb : b < B) (h2 : VOwn W B v' l) (h3 : Below w.heap.size w W) :
  VOwn ((W.setCell ⟨b, 0, none⟩ (.string key)).setCell ⟨b, 1, none⟩ v') w.heap.size v' l ∧ Below w.heap.size w ((W.setCell ⟨b, 0, none⟩ (.string key)).setCell ⟨b, 1, none⟩ v') := by
 refine ⟨(h2.mono (by omega)).kept fun g hg => ?_, (h3.setCell (p := ⟨b, 0, none⟩) hb0 _).setCell (p := ⟨b, 1, none⟩) hb0 _⟩
 have := (h2.lt hg).1
 rw [Below.heap_setCell _ _ _ _ (by simp; omega), Below.heap_setCell _ _ _ _ (by simp; omega)]
theorem VOwn.row {w : World} {B k n : Nat} {ad : Option Addr} {c : Nat} {l : List Ve} (h : VOwn w B (.slice ad n c) l) (hn : l.length = k + 1) : ∃ g, ad = some ⟨g, 0, none⟩ := by
 rcases h.2 with ⟨_, h0⟩ | ⟨g, cap, cur, hv, _⟩
 ·omega
 ·simp only [Value.slice.injEq] at hv
  exact ⟨g, hv.1⟩
theorem purge_no (key : ByteArray) (v : Value) (l : List Ve) (n : Int) (w : World) (h : VsAt w v l) (hn : l.length ≤ 1000000) (hpl : placeI l n = -1) :
  Calls Tryz.prog 124 #[.agg #[.string key, v], .int .i64 n] w (EntAns key (l, false) w) := by
 obtain ⟨ad, cap, rfl, _⟩ := h.shape
 have h0 := pur_start w key ad l.length cap l 45 h
 have HC := Lib.hid (fun W' (h : VsAt W' (.slice ad l.length cap) l) => copied_p key _ l W' h hn)
 have HL := Lib.hid (fun W' (h : VsAt W' (.slice ad l.length cap) l) => tplace_p key _ l n W' h hn)
 rw [hpl] at HL
 clear h
 go_enter Tryz.func124, Tryz.ntmps124
 go_wp2_with fail
 generalize (w.alloc (.cells #[.string key, .slice ad l.length cap] 45)).alloc (.cells #[.string ⟨#[]⟩, .slice none 0 0] 45) = W at *
 have HP := Lib.hid h0.drew
 have hs := h0.sz
 have hne : ¬ w.heap.size = W.heap.size := by omega
 have hne' : ¬ W.heap.size = w.heap.size := by omega
 obtain ⟨⟨c0, c1⟩, f0, f1⟩ := h0.ec
 clear h0
 go_region_held3 (fun W' => W'.cell? ⟨w.heap.size, 0, none⟩ = some (.string key) ∧ W'.cell? ⟨w.heap.size, 1, none⟩ = some (.slice ad l.length cap)) (first | exact ⟨HP.out.ec.1.1, HP.out.ec.1.2⟩ | go_keep) (first
  | (go_at_call 157; refine (HC.out _ ?_).mono ?_; (first | exact HP.out.vs | exact (HP.out.alloc _).vs); rintro e w1 ⟨ad', cap', rfl, ho, hb⟩; have HO : Hid (VOwn w1 (w.heap.size + 2) (.slice ad' l.length cap') l) := Lib.hid (by first | exact ho.mono HP.out.sz | exact ho.mono (HP.out.alloc _).sz); (first | (replace HX := Lib.hid (And.intro (HX.out.1.below hb) HX.out.2); obtain ⟨⟨p0, p1⟩, q0, q1⟩ := HX.out.1.ec; obtain ⟨hx1, hx2⟩ := apart2 HX.out.2) | (have HX := Lib.hid (And.intro (show EX w1 W.heap.size from EX.after (W := W.drew) hb) (show w.heap.size + 2 ≤ W.heap.size from HP.out.sz)); obtain ⟨⟨p0, p1⟩, q0, q1⟩ := HX.out.1.ec; obtain ⟨hx1, hx2⟩ := apart2 HX.out.2) | (have HX := Lib.hid (And.intro (EX.after hb) HP.out.sz); obtain ⟨⟨p0, p1⟩, q0, q1⟩ := HX.out.1.ec; obtain ⟨hx1, hx2⟩ := apart2 HX.out.2) | skip); (first | replace HP := Lib.hid (HP.out.below hb) | replace HP := Lib.hid ((HP.out.alloc _).below hb)); have hsz := HP.out.sz; obtain ⟨⟨c0, c1⟩, f0, f1⟩ := HP.out.ec; clear ho hb)
  | (go_at_call 139; refine (HL.out _ ?_).mono ?_; (first | exact HP.out.vs | exact (HP.out.alloc _).vs); rintro e w2 ⟨rfl, hb⟩; (first | (replace HO := Lib.hid (HO.out.below hb)) | (replace HO := Lib.hid ((HO.out.below ((Below.refl _ _).alloc (Nat.le_refl _) _)).below hb)) | skip); (first | (replace HX := Lib.hid (And.intro (HX.out.1.below hb) HX.out.2); obtain ⟨⟨p0, p1⟩, q0, q1⟩ := HX.out.1.ec; obtain ⟨hx1, hx2⟩ := apart2 HX.out.2) | (have HX := Lib.hid (And.intro (show EX w2 W.heap.size from EX.after (W := W.drew) hb) (show w.heap.size + 2 ≤ W.heap.size from HP.out.sz)); obtain ⟨⟨p0, p1⟩, q0, q1⟩ := HX.out.1.ec; obtain ⟨hx1, hx2⟩ := apart2 HX.out.2) | (have HX := Lib.hid (And.intro (EX.after hb) HP.out.sz); obtain ⟨⟨p0, p1⟩, q0, q1⟩ := HX.out.1.ec; obtain ⟨hx1, hx2⟩ := apart2 HX.out.2) | skip); (first | replace HP := Lib.hid (HP.out.below hb) | replace HP := Lib.hid ((HP.out.alloc _).below hb)); have hsz := HP.out.sz; obtain ⟨⟨c0, c1⟩, f0, f1⟩ := HP.out.ec; clear hb))
 ·have HS := Lib.hid (HP.out.late HO.out 45)
  generalize w2.alloc (.cells #[.string key, .slice ad' l.length cap'] 45) = W2 at HS ⊢
  generalize w2.heap.size = X at HS ⊢
  clear HP HO HC HL c0 c1 f0 f1 hne hne' hs hsz
  obtain ⟨⟨⟨x0, x1⟩, xf0, xf1⟩, hOwn, hB, hX2, hNe, ⟨⟨r0, r1⟩, rf0, rf1⟩⟩ := HS.out
  have hA := ent_answer2 (key := key) (w.heap.size + 1) (by omega) (by omega) hOwn hB
  clear hOwn hB
  go_wp2_with fail
  have t0 : ((W2.setCell ⟨w.heap.size + 1, 0, none⟩ (.string key)).setCell ⟨w.heap.size + 1, 1, none⟩ (.slice ad' l.length cap')).cell? ⟨w.heap.size + 1, 0, none⟩ = some (.string key) := by go_simp
  have t1 : ((W2.setCell ⟨w.heap.size + 1, 0, none⟩ (.string key)).setCell ⟨w.heap.size + 1, 1, none⟩ (.slice ad' l.length cap')).cell? ⟨w.heap.size + 1, 1, none⟩ = some (.slice ad' l.length cap') := by go_simp
  exact bodyPost_ret (v := .tuple #[.agg #[.string key, .slice ad' l.length cap'], .bool false]) (by simp [results, Tryz.results124, go_sem, t0, t1]) rfl ⟨ad', cap', rfl, hA⟩
 ·have HS := Lib.hid (HP.out.early HO.out HX.out.1 HX.out.2)
  generalize (w2.setCell ⟨w1.heap.size, 0, none⟩ (.string key)).setCell ⟨w1.heap.size, 1, none⟩ (.slice ad' l.length cap') = W2 at HS ⊢
  generalize w1.heap.size = X at HS ⊢
  clear HP HO HC HL c0 c1 f0 f1 hne hne' hs hsz HX p0 p1 q0 q1 hx1 hx2
  obtain ⟨⟨⟨x0, x1⟩, xf0, xf1⟩, hOwn, hB, hX2, hNe, ⟨⟨r0, r1⟩, rf0, rf1⟩⟩ := HS.out
  have hA := ent_answer2 (key := key) (w.heap.size + 1) (by omega) (by omega) hOwn hB
  clear hOwn hB
  go_wp2_with fail
  have t0 : ((W2.setCell ⟨w.heap.size + 1, 0, none⟩ (.string key)).setCell ⟨w.heap.size + 1, 1, none⟩ (.slice ad' l.length cap')).cell? ⟨w.heap.size + 1, 0, none⟩ = some (.string key) := by go_simp
  have t1 : ((W2.setCell ⟨w.heap.size + 1, 0, none⟩ (.string key)).setCell ⟨w.heap.size + 1, 1, none⟩ (.slice ad' l.length cap')).cell? ⟨w.heap.size + 1, 1, none⟩ = some (.slice ad' l.length cap') := by go_simp
  exact bodyPost_ret (v := .tuple #[.agg #[.string key, .slice ad' l.length cap'], .bool false]) (by simp [results, Tryz.results124, go_sem, t0, t1]) rfl ⟨ad', cap', rfl, hA⟩
 ·have HS := Lib.hid (HP.out.early HO.out HX.out.1 HX.out.2)
  generalize (w2.setCell ⟨W.heap.size, 0, none⟩ (.string key)).setCell ⟨W.heap.size, 1, none⟩ (.slice ad' l.length cap') = W2 at HS ⊢
  generalize W.heap.size = X at HS ⊢
  clear HP HO HC HL c0 c1 f0 f1 hne hne' hs hsz HX p0 p1 q0 q1 hx1 hx2
  obtain ⟨⟨⟨x0, x1⟩, xf0, xf1⟩, hOwn, hB, hX2, hNe, ⟨⟨r0, r1⟩, rf0, rf1⟩⟩ := HS.out
  have hA := ent_answer2 (key := key) (w.heap.size + 1) (by omega) (by omega) hOwn hB
  clear hOwn hB
  go_wp2_with fail
  have t0 : ((W2.setCell ⟨w.heap.size + 1, 0, none⟩ (.string key)).setCell ⟨w.heap.size + 1, 1, none⟩ (.slice ad' l.length cap')).cell? ⟨w.heap.size + 1, 0, none⟩ = some (.string key) := by go_simp
  have t1 : ((W2.setCell ⟨w.heap.size + 1, 0, none⟩ (.string key)).setCell ⟨w.heap.size + 1, 1, none⟩ (.slice ad' l.length cap')).cell? ⟨w.heap.size + 1, 1, none⟩ = some (.slice ad' l.length cap') := by go_simp
  exact bodyPost_ret (v := .tuple #[.agg #[.string key, .slice ad' l.length cap'], .bool false]) (by simp [results, Tryz.results124, go_sem, t0, t1]) rfl ⟨ad', cap', rfl, hA⟩
theorem purge_yes (key : ByteArray) (v : Value) (l : List Ve) (n : Int) (w : World) (h : VsAt w v l) (hn : l.length ≤ 1000000) (k r : Nat) (hpl : placeI l n = (k : Int)) (hl : l.length = k + 1 + r) :
  Calls Tryz.prog 124 #[.agg #[.string key, v], .int .i64 n] w (EntAns key (l.take k ++ l.drop (k + 1), true) w) := by
 have h3 : (l.take k ++ l.drop (k + 1)).length = k + r := by rw [List.length_append, List.length_take, List.length_drop, hl]; omega
 obtain ⟨ad, cap, rfl, _⟩ := h.shape
 have h0 := pur_start w key ad l.length cap l 45 h
 have HC := Lib.hid (fun W' (h : VsAt W' (.slice ad l.length cap) l) => copied_p key _ l W' h hn)
 have HL := Lib.hid (fun W' (h : VsAt W' (.slice ad l.length cap) l) => tplace_p key _ l n W' h hn)
 rw [hpl] at HL
 clear h
 rw [hl] at h0 HC HL
 go_enter Tryz.func124, Tryz.ntmps124
 go_wp2_with fail
 generalize (w.alloc (.cells #[.string key, .slice ad (k + 1 + r) cap] 45)).alloc (.cells #[.string ⟨#[]⟩, .slice none 0 0] 45) = W at *
 have HP := Lib.hid h0.drew
 have hs := h0.sz
 have hne : ¬ w.heap.size = W.heap.size := by omega
 have hne' : ¬ W.heap.size = w.heap.size := by omega
 obtain ⟨⟨c0, c1⟩, f0, f1⟩ := h0.ec
 clear h0
 go_region_held3 (fun W' => W'.cell? ⟨w.heap.size, 0, none⟩ = some (.string key) ∧ W'.cell? ⟨w.heap.size, 1, none⟩ = some (.slice ad (k + 1 + r) cap)) (first | exact ⟨HP.out.ec.1.1, HP.out.ec.1.2⟩ | go_keep) (first
  | (go_at_call 157; refine (HC.out _ ?_).mono ?_; (first | exact HP.out.vs | exact (HP.out.alloc _).vs); rintro e w1 ⟨ad', cap', rfl, ho, hb⟩; have HO : Hid (VOwn w1 (w.heap.size + 2) (.slice ad' (k + 1 + r) cap') l) := Lib.hid (by first | exact ho.mono HP.out.sz | exact ho.mono (HP.out.alloc _).sz); (first | (replace HX := Lib.hid (And.intro (HX.out.1.below hb) HX.out.2); obtain ⟨⟨p0, p1⟩, q0, q1⟩ := HX.out.1.ec; obtain ⟨hx1, hx2⟩ := apart2 HX.out.2) | (have HX := Lib.hid (And.intro (show EX w1 W.heap.size from EX.after (W := W.drew) hb) (show w.heap.size + 2 ≤ W.heap.size from HP.out.sz)); obtain ⟨⟨p0, p1⟩, q0, q1⟩ := HX.out.1.ec; obtain ⟨hx1, hx2⟩ := apart2 HX.out.2) | (have HX := Lib.hid (And.intro (EX.after hb) HP.out.sz); obtain ⟨⟨p0, p1⟩, q0, q1⟩ := HX.out.1.ec; obtain ⟨hx1, hx2⟩ := apart2 HX.out.2) | skip); (first | replace HP := Lib.hid (HP.out.below hb) | replace HP := Lib.hid ((HP.out.alloc _).below hb)); have hsz := HP.out.sz; obtain ⟨⟨c0, c1⟩, f0, f1⟩ := HP.out.ec; clear ho hb)
  | (go_at_call 139; refine (HL.out _ ?_).mono ?_; (first | exact HP.out.vs | exact (HP.out.alloc _).vs); rintro e w2 ⟨rfl, hb⟩; (first | (replace HO := Lib.hid (HO.out.below hb)) | (replace HO := Lib.hid ((HO.out.below ((Below.refl _ _).alloc (Nat.le_refl _) _)).below hb)) | skip); (first | (replace HX := Lib.hid (And.intro (HX.out.1.below hb) HX.out.2); obtain ⟨⟨p0, p1⟩, q0, q1⟩ := HX.out.1.ec; obtain ⟨hx1, hx2⟩ := apart2 HX.out.2) | (have HX := Lib.hid (And.intro (show EX w2 W.heap.size from EX.after (W := W.drew) hb) (show w.heap.size + 2 ≤ W.heap.size from HP.out.sz)); obtain ⟨⟨p0, p1⟩, q0, q1⟩ := HX.out.1.ec; obtain ⟨hx1, hx2⟩ := apart2 HX.out.2) | (have HX := Lib.hid (And.intro (EX.after hb) HP.out.sz); obtain ⟨⟨p0, p1⟩, q0, q1⟩ := HX.out.1.ec; obtain ⟨hx1, hx2⟩ := apart2 HX.out.2) | skip); (first | replace HP := Lib.hid (HP.out.below hb) | replace HP := Lib.hid ((HP.out.alloc _).below hb)); have hsz := HP.out.sz; obtain ⟨⟨c0, c1⟩, f0, f1⟩ := HP.out.ec; clear hb))
 ·have HS := Lib.hid (HP.out.late HO.out 45)
  generalize w2.alloc (.cells #[.string key, .slice ad' (k + 1 + r) cap'] 45) = W2 at HS ⊢
  generalize w2.heap.size = X at HS ⊢
  clear HP HO HC HL c0 c1 f0 f1 hne hne' hs hsz
  obtain ⟨g, rfl⟩ := HS.out.own.row (k := k + r) (by omega)
  have HD := Lib.hid (delete_p g cap' k r l (w.heap.size + 2) W2 HS.out.own hl hn)
  obtain ⟨⟨⟨x0, x1⟩, xf0, xf1⟩, hOwn, hB, hX2, hNe, ⟨⟨r0, r1⟩, rf0, rf1⟩⟩ := HS.out
  have hXne : ¬ w.heap.size + 1 = X := by omega
  have hXne' : ¬ X = w.heap.size + 1 := by omega
  clear hOwn hB
  go_wp2_with fail
  refine HD.out.mono ?_
  rintro _ w3 ⟨rfl, ho3, hb3, hk3⟩
  obtain ⟨⟨⟨y0, y1⟩, yf0, yf1⟩, hO2, hB2, ⟨⟨z0, z1⟩, zf0, zf1⟩⟩ := HS.out.cut ho3 hb3 hk3
  have hA := ent_answer2 (key := key) (w.heap.size + 1) (by omega) (by omega) hO2 hB2
  clear x0 x1 xf0 xf1 r0 r1 rf0 rf1 ho3 hb3 hk3 hO2 hB2
  go_wp2_with fail
  have t0 : (((w3.setCell ⟨X, 1, none⟩ (.slice (some ⟨g, 0, none⟩) (k + r) cap')).setCell ⟨w.heap.size + 1, 0, none⟩ (.string key)).setCell ⟨w.heap.size + 1, 1, none⟩ (.slice (some ⟨g, 0, none⟩) (k + r) cap')).cell? ⟨w.heap.size + 1, 0, none⟩ = some (.string key) := by go_simp
  have t1 : (((w3.setCell ⟨X, 1, none⟩ (.slice (some ⟨g, 0, none⟩) (k + r) cap')).setCell ⟨w.heap.size + 1, 0, none⟩ (.string key)).setCell ⟨w.heap.size + 1, 1, none⟩ (.slice (some ⟨g, 0, none⟩) (k + r) cap')).cell? ⟨w.heap.size + 1, 1, none⟩ = some (.slice (some ⟨g, 0, none⟩) (k + r) cap') := by go_simp
  exact bodyPost_ret (v := .tuple #[.agg #[.string key, .slice (some ⟨g, 0, none⟩) (k + r) cap'], .bool true]) (by simp [results, Tryz.results124, go_sem, t0, t1]) rfl ⟨some ⟨g, 0, none⟩, cap', by rw [h3], by rw [h3]; exact hA.1, hA.2⟩
 ·have HS := Lib.hid (HP.out.early HO.out HX.out.1 HX.out.2)
  generalize (w2.setCell ⟨w1.heap.size, 0, none⟩ (.string key)).setCell ⟨w1.heap.size, 1, none⟩ (.slice ad' (k + 1 + r) cap') = W2 at HS ⊢
  generalize w1.heap.size = X at HS ⊢
  clear HP HO HC HL c0 c1 f0 f1 hne hne' hs hsz HX p0 p1 q0 q1 hx1 hx2
  obtain ⟨g, rfl⟩ := HS.out.own.row (k := k + r) (by omega)
  have HD := Lib.hid (delete_p g cap' k r l (w.heap.size + 2) W2 HS.out.own hl hn)
  obtain ⟨⟨⟨x0, x1⟩, xf0, xf1⟩, hOwn, hB, hX2, hNe, ⟨⟨r0, r1⟩, rf0, rf1⟩⟩ := HS.out
  have hXne : ¬ w.heap.size + 1 = X := by omega
  have hXne' : ¬ X = w.heap.size + 1 := by omega
  clear hOwn hB
  go_wp2_with fail
  refine HD.out.mono ?_
  rintro _ w3 ⟨rfl, ho3, hb3, hk3⟩
  obtain ⟨⟨⟨y0, y1⟩, yf0, yf1⟩, hO2, hB2, ⟨⟨z0, z1⟩, zf0, zf1⟩⟩ := HS.out.cut ho3 hb3 hk3
  have hA := ent_answer2 (key := key) (w.heap.size + 1) (by omega) (by omega) hO2 hB2
  clear x0 x1 xf0 xf1 r0 r1 rf0 rf1 ho3 hb3 hk3 hO2 hB2
  go_wp2_with fail
  have t0 : (((w3.setCell ⟨X, 1, none⟩ (.slice (some ⟨g, 0, none⟩) (k + r) cap')).setCell ⟨w.heap.size + 1, 0, none⟩ (.string key)).setCell ⟨w.heap.size + 1, 1, none⟩ (.slice (some ⟨g, 0, none⟩) (k + r) cap')).cell? ⟨w.heap.size + 1, 0, none⟩ = some (.string key) := by go_simp
  have t1 : (((w3.setCell ⟨X, 1, none⟩ (.slice (some ⟨g, 0, none⟩) (k + r) cap')).setCell ⟨w.heap.size + 1, 0, none⟩ (.string key)).setCell ⟨w.heap.size + 1, 1, none⟩ (.slice (some ⟨g, 0, none⟩) (k + r) cap')).cell? ⟨w.heap.size + 1, 1, none⟩ = some (.slice (some ⟨g, 0, none⟩) (k + r) cap') := by go_simp
  exact bodyPost_ret (v := .tuple #[.agg #[.string key, .slice (some ⟨g, 0, none⟩) (k + r) cap'], .bool true]) (by simp [results, Tryz.results124, go_sem, t0, t1]) rfl ⟨some ⟨g, 0, none⟩, cap', by rw [h3], by rw [h3]; exact hA.1, hA.2⟩
 ·have HS := Lib.hid (HP.out.early HO.out HX.out.1 HX.out.2)
  generalize (w2.setCell ⟨W.heap.size, 0, none⟩ (.string key)).setCell ⟨W.heap.size, 1, none⟩ (.slice ad' (k + 1 + r) cap') = W2 at HS ⊢
  generalize W.heap.size = X at HS ⊢
  clear HP HO HC HL c0 c1 f0 f1 hne hne' hs hsz HX p0 p1 q0 q1 hx1 hx2
  obtain ⟨g, rfl⟩ := HS.out.own.row (k := k + r) (by omega)
  have HD := Lib.hid (delete_p g cap' k r l (w.heap.size + 2) W2 HS.out.own hl hn)
  obtain ⟨⟨⟨x0, x1⟩, xf0, xf1⟩, hOwn, hB, hX2, hNe, ⟨⟨r0, r1⟩, rf0, rf1⟩⟩ := HS.out
  have hXne : ¬ w.heap.size + 1 = X := by omega
  have hXne' : ¬ X = w.heap.size + 1 := by omega
  clear hOwn hB
  go_wp2_with fail
  refine HD.out.mono ?_
  rintro _ w3 ⟨rfl, ho3, hb3, hk3⟩
  obtain ⟨⟨⟨y0, y1⟩, yf0, yf1⟩, hO2, hB2, ⟨⟨z0, z1⟩, zf0, zf1⟩⟩ := HS.out.cut ho3 hb3 hk3
  have hA := ent_answer2 (key := key) (w.heap.size + 1) (by omega) (by omega) hO2 hB2
  clear x0 x1 xf0 xf1 r0 r1 rf0 rf1 ho3 hb3 hk3 hO2 hB2
  go_wp2_with fail
  have t0 : (((w3.setCell ⟨X, 1, none⟩ (.slice (some ⟨g, 0, none⟩) (k + r) cap')).setCell ⟨w.heap.size + 1, 0, none⟩ (.string key)).setCell ⟨w.heap.size + 1, 1, none⟩ (.slice (some ⟨g, 0, none⟩) (k + r) cap')).cell? ⟨w.heap.size + 1, 0, none⟩ = some (.string key) := by go_simp
  have t1 : (((w3.setCell ⟨X, 1, none⟩ (.slice (some ⟨g, 0, none⟩) (k + r) cap')).setCell ⟨w.heap.size + 1, 0, none⟩ (.string key)).setCell ⟨w.heap.size + 1, 1, none⟩ (.slice (some ⟨g, 0, none⟩) (k + r) cap')).cell? ⟨w.heap.size + 1, 1, none⟩ = some (.slice (some ⟨g, 0, none⟩) (k + r) cap') := by go_simp
  exact bodyPost_ret (v := .tuple #[.agg #[.string key, .slice (some ⟨g, 0, none⟩) (k + r) cap'], .bool true]) (by simp [results, Tryz.results124, go_sem, t0, t1]) rfl ⟨some ⟨g, 0, none⟩, cap', by rw [h3], by rw [h3]; exact hA.1, hA.2⟩
theorem tpurge_p (key : ByteArray) (v : Value) (l : List Ve) (n : Int) (w : World) (h : VsAt w v l) (hn : l.length ≤ 1000000) :
  Calls Tryz.prog 124 #[.agg #[.string key, v], .int .i64 n] w (EntAns key (purgeE l n) w) := by
 unfold purgeE
 cases hp : placeE l n with
 | none => exact purge_no key v l n w h hn (by unfold placeI; rw [hp])
 | some k =>
  have hk := placeE_lt hp
  exact purge_yes key v l n w h hn k (l.length - (k + 1)) (by unfold placeI; rw [hp]) (by omega)
end Go.Proofs.YtlpgphiccjkenaaGreatDoor
