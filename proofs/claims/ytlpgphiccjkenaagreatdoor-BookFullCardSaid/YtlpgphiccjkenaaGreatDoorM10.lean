/-
 Contracts of the program, and what they rest on.
-/
import Derived.Test.YtlpgphiccjkenaaGreatDoorTk
import Derived.Test.YtlpgphiccjkenaaGreatDoorM09
import Derived.Deep.RegionHeld3
set_option maxRecDepth 100000
set_option maxHeartbeats 16000000
namespace Go.Proofs.YtlpgphiccjkenaaGreatDoor
open Go.RowKit
def EntAns (key : ByteArray) (r : List Ve × Bool) (w : World) (e : Ending) (w' : World) : Prop :=
 ∃ ad cap, e = .returned (.tuple #[.agg #[.string key, .slice ad r.1.length cap], .bool r.2]) ∧ VOwn w' w.heap.size (.slice ad r.1.length cap) r.1 ∧ Below w.heap.size w w'
def w3 (w : World) (key : ByteArray) (ad : Option Addr) (n c : Nat) (x : Ve) (t t' : TypeId) : World := ((w.alloc (.cells #[.string key, .slice ad n c] t)).alloc (.cells #[.int .i64 x.ver, .bool x.gone, .string x.body] t')).alloc (.cells #[.string ⟨#[]⟩, .slice none 0 0] t)
theorem w3_below (w : World) (key : ByteArray) (ad : Option Addr) (n c : Nat) (x : Ve) (t t' : TypeId) : Below w.heap.size w (w3 w key ad n c x t t') := (((Below.refl _ w).alloc (Nat.le_refl _) _).alloc (by simp) _).alloc (by simp; omega) _
theorem w3_size (w : World) (key : ByteArray) (ad : Option Addr) (n c : Nat) (x : Ve) (t t' : TypeId) : (w3 w key ad n c x t t').heap.size = w.heap.size + 3 := by unfold w3; simp
theorem w3_ec (w : World) (key : ByteArray) (ad : Option Addr) (n c : Nat) (x : Ve) (t t' : TypeId) : EC (w3 w key ad n c x t t') w.heap.size key (.slice ad n c) := ((EC.new w key ad n c t).alloc _).alloc _
theorem w3_vc (w : World) (key : ByteArray) (ad : Option Addr) (n c : Nat) (x : Ve) (t t' : TypeId) : VC3 (w3 w key ad n c x t t') (w.heap.size + 1) x := by
 have := VC3.new (w.alloc (.cells #[.string key, .slice ad n c] t)) x t'
 rw [show (w.alloc (.cells #[.string key, .slice ad n c] t)).heap.size = w.heap.size + 1 by simp] at this
 exact this.below ((Below.refl _ _).alloc (Nat.le_refl _) _)
theorem w3_er (w : World) (key : ByteArray) (ad : Option Addr) (n c : Nat) (x : Ve) (t t' : TypeId) : EC (w3 w key ad n c x t t') (w.heap.size + 2) ⟨#[]⟩ (.slice none 0 0) := by
 have := EC.new ((w.alloc (.cells #[.string key, .slice ad n c] t)).alloc (.cells #[.int .i64 x.ver, .bool x.gone, .string x.body] t')) ⟨#[]⟩ none 0 0 t
 rw [show ((w.alloc (.cells #[.string key, .slice ad n c] t)).alloc (.cells #[.int .i64 x.ver, .bool x.gone, .string x.body] t')).heap.size = w.heap.size + 2 by simp] at this
 exact this
def AddS (w W : World) (X : Nat) (key : ByteArray) (v v' : Value) (l : List Ve) (x : Ve) : Prop :=
 EC W X key v' ∧ VOwn W (w.heap.size + 3) v' l ∧ Below w.heap.size w W ∧ w.heap.size + 3 ≤ X ∧ v'.ownBlock ≠ some X ∧ VC3 W (w.heap.size + 1) x ∧ EC W (w.heap.size + 2) ⟨#[]⟩ (.slice none 0 0) ∧ EC W w.heap.size key v ∧ VsAt W v l
def Add0 (w W : World) (key : ByteArray) (v : Value) (l : List Ve) (x : Ve) : Prop :=
 w.heap.size + 3 ≤ W.heap.size ∧ Below w.heap.size w W ∧ VC3 W (w.heap.size + 1) x ∧ EC W (w.heap.size + 2) ⟨#[]⟩ (.slice none 0 0) ∧ EC W w.heap.size key v ∧ VsAt W v l
theorem Add0.below {w W W' : World} {key : ByteArray} {v : Value} {l : List Ve} {x : Ve} (h : Add0 w W key v l x) (hb : Below W.heap.size W W') : Add0 w W' key v l x := by
 obtain ⟨h1, h2, h3, h4, h5, h6⟩ := h
 exact ⟨Nat.le_trans h1 hb.size, h2.trans (hb.mono h2.size), h3.below hb, h4.below hb, h5.below hb, h6.below hb⟩
theorem Add0.drew {w W : World} {key : ByteArray} {v : Value} {l : List Ve} {x : Ve} (h : Add0 w W key v l x) : Add0 w W.drew key v l x := h.below (Below.refl W.heap.size W).drew
theorem Add0.alloc {w W : World} {key : ByteArray} {v : Value} {l : List Ve} {x : Ve} (h : Add0 w W key v l x) (o : Obj) : Add0 w (W.alloc o) key v l x := h.below ((Below.refl W.heap.size W).alloc (Nat.le_refl _) o)
theorem Add0.late {w W w1 : World} {key : ByteArray} {v : Value} {l : List Ve} {x : Ve} {ad' : Option Addr} {n cap' : Nat} (h : Add0 w W key v l x) (ho : VOwn w1 W.heap.size (.slice ad' n cap') l) (hb : Below W.heap.size W w1) (t : TypeId) :
  AddS w (w1.alloc (.cells #[.string key, .slice ad' n cap'] t)) w1.heap.size key v (.slice ad' n cap') l x := by
 obtain ⟨h1, h2, h3, h4, h5, h6⟩ := (h.below hb).alloc (.cells #[.string key, .slice ad' n cap'] t)
 refine ⟨EC.new w1 key ad' n cap' t, (ho.mono h.1).below ((Below.refl _ _).alloc (Nat.le_refl _) _), h2, Nat.le_trans h.1 hb.size, fun e => ?_, h3, h4, h5, h6⟩
 have := (ho.lt e).2
 omega
theorem Add0.early {w W w1 : World} {key : ByteArray} {v : Value} {l : List Ve} {x : Ve} {ad' : Option Addr} {n cap' : Nat} {t : TypeId} (h : Add0 w W key v l x) (ho : VOwn w1 (W.heap.size + 1) (.slice ad' n cap') l) (hb : Below (W.heap.size + 1) (W.alloc (.cells #[.string ⟨#[]⟩, .slice none 0 0] t)) w1) :
  AddS w ((w1.setCell ⟨W.heap.size, 0, none⟩ (.string key)).setCell ⟨W.heap.size, 1, none⟩ (.slice ad' n cap')) W.heap.size key v (.slice ad' n cap') l x := by
 have hsz : (W.alloc (.cells #[.string ⟨#[]⟩, .slice none 0 0] t)).heap.size = W.heap.size + 1 := by simp
 have hE := (EC.new W ⟨#[]⟩ none 0 0 t).below (hsz.symm ▸ hb)
 have k0 := h.below ((Below.refl W.heap.size W).alloc (Nat.le_refl _) (.cells #[.string ⟨#[]⟩, .slice none 0 0] t))
 have k1 := k0.below (hsz.symm ▸ hb)
 have hbW : Below W.heap.size W ((w1.setCell ⟨W.heap.size, 0, none⟩ (.string key)).setCell ⟨W.heap.size, 1, none⟩ (.slice ad' n cap')) := by
  have e1 : Below W.heap.size W w1 := ((Below.refl W.heap.size W).alloc (Nat.le_refl _) (.cells #[.string ⟨#[]⟩, .slice none 0 0] t)).trans (hb.mono (by omega))
  exact (e1.setCell (p := ⟨W.heap.size, 0, none⟩) (by simp) _).setCell (p := ⟨W.heap.size, 1, none⟩) (by simp) _
 obtain ⟨h1, h2, h3, h4, h5, h6⟩ := h.below hbW
 obtain ⟨⟨e0, e1⟩, f0, f1⟩ := hE
 refine ⟨⟨⟨?_, ?_⟩, ?_, ?_⟩, ?_, h2, h.1, fun e => ?_, h3, h4, h5, h6⟩
 ·go_simp
 ·go_simp
 ·go_simp
 ·go_simp
 ·refine (ho.mono (B' := w.heap.size + 3) (by have := h.1; omega)).kept fun g hg => ?_
  have := (ho.lt hg).1
  rw [Below.heap_setCell _ _ _ _ (by simp; omega), Below.heap_setCell _ _ _ _ (by simp; omega)]
 ·have := (ho.lt e).1
  omega
theorem grown_block {w w' : World} {row : Option Nat} (h : w.grownBy w' row) {k : Nat} (hk : k < w.heap.size) (hn : row ≠ some k) : w'.heap[k]? = w.heap[k]? := h.block k hk (fun e => hn e.symm)
theorem ent_answer {w W : World} {key : ByteArray} {v' : Value} {l : List Ve} (b : Nat) (hb0 : w.heap.size ≤ b) (hb : b < w.heap.size + 3) (h2 : VOwn W (w.heap.size + 3) v' l) (h3 : Below w.heap.size w W) :
  VOwn ((W.setCell ⟨b, 0, none⟩ (.string key)).setCell ⟨b, 1, none⟩ v') w.heap.size v' l ∧ Below w.heap.size w ((W.setCell ⟨b, 0, none⟩ (.string key)).setCell ⟨b, 1, none⟩ v') := by
 refine ⟨(h2.mono (by omega)).kept fun g hg => ?_, (h3.setCell (p := ⟨b, 0, none⟩) hb0 _).setCell (p := ⟨b, 1, none⟩) hb0 _⟩
 have := (h2.lt hg).1
 rw [Below.heap_setCell _ _ _ _ (by simp; omega), Below.heap_setCell _ _ _ _ (by simp; omega)]
theorem AddS.more {w W w1 : World} {X : Nat} {key : ByteArray} {v v' : Value} {l m : List Ve} {x : Ve} {ad : Option Addr} {n c : Nat} (h : AddS w W X key v v' l x) (o : Obj) (hg : (W.alloc o).drew.grownBy w1 v'.ownBlock) (hv : (Value.slice ad n c).ownBlock = v'.ownBlock ∨ (Value.slice ad n c).ownBlock = some (W.heap.size + 1))
  (ho : VOwn w1 (w.heap.size + 3) (.slice ad n c) m) :
  EC w1 X key v' ∧ EC (w1.setCell ⟨X, 1, none⟩ (.slice ad n c)) X key (.slice ad n c) ∧ VOwn (w1.setCell ⟨X, 1, none⟩ (.slice ad n c)) (w.heap.size + 3) (.slice ad n c) m ∧ Below w.heap.size w (w1.setCell ⟨X, 1, none⟩ (.slice ad n c)) ∧ EC (w1.setCell ⟨X, 1, none⟩ (.slice ad n c)) (w.heap.size + 2) ⟨#[]⟩ (.slice none 0 0) := by
 obtain ⟨h1, h2, h3, h4, h5, h6, h7, h8, h9⟩ := h
 have hlt := fun g hg => (h2.lt (g := g) hg).1
 have hXW : X < W.heap.size := h1.lt
 have hW2 : w.heap.size + 2 < W.heap.size := h7.lt
 have hsz : (W.alloc o).drew.heap.size = W.heap.size + 1 := by simp
 have old : ∀ k, k < W.heap.size → v'.ownBlock ≠ some k → w1.heap[k]? = W.heap[k]? := fun k hk hn => (grown_block hg (by omega) hn).trans (Below.heap_alloc _ _ _ hk)
 have e1 : EC w1 X key v' := h1.kept (old X hXW h5)
 have hne : (Value.slice ad n c).ownBlock ≠ some X := by
  rcases hv with e | e <;> rw [e]
  ·exact h5
  ·intro e2
   have := Option.some.inj e2
   omega
 have e2 : (w1.setCell ⟨X, 1, none⟩ (.slice ad n c)).heap[w.heap.size + 2]? = W.heap[w.heap.size + 2]? := by
  rw [Below.heap_setCell _ _ _ _ (by simp; omega)]
  exact old _ hW2 (fun e => by have := hlt _ e; omega)
 refine ⟨e1, ?_, ho.kept fun g hg' => ?_, ?_, h7.kept e2⟩
 ·obtain ⟨⟨c0, c1⟩, f0, f1⟩ := e1
  refine ⟨⟨?_, ?_⟩, ?_, ?_⟩ <;> go_simp
 ·rw [Below.heap_setCell _ _ _ _ (by simp; intro e; exact hne (by rw [hg', e]))]
 ·have b1 : Below w.heap.size w (W.alloc o).drew := (h3.alloc h3.size o).drew
  have b2 : Below w.heap.size w w1 := b1.grown hg (by omega) (fun k hk => by have := hlt k hk; omega)
  exact b2.setCell (p := ⟨X, 1, none⟩) (by simp; omega) _
theorem own_up {W : World} {B N : Nat} {v : Value} {l : List Ve} {o : Obj} (h : VOwn W B v l) (hn : l.length = N) : (W.alloc o).drew.ownsRow B 55 3 v N (vcells l) := by
 subst hn
 exact VOwn.kept (w' := (W.alloc o).drew) h fun g hg => Below.heap_alloc W o g (h.lt hg).2
theorem mayAdd_no {l : List Ve} {n : Int} (h : mayAdd l n = false) : 12 ≤ l.length ∨ ∃ y k, l.length = k + 1 ∧ k + 1 < 12 ∧ l[k]? = some y ∧ n ≤ y.ver := by
 unfold mayAdd at h
 rcases Nat.lt_or_ge l.length 12 with h12 | h12
 ·rw [decide_eq_true h12, Bool.true_and] at h
  cases hl : l.getLast? with
  | none => rw [hl] at h; cases h
  | some y =>
   rw [hl] at h
   simp only [decide_eq_false_iff_not] at h
   obtain ⟨h0, h1⟩ := last_get hl
   exact .inr ⟨y, l.length - 1, by omega, by omega, h1, by omega⟩
 ·exact .inl h12
theorem mayAdd_yes {l : List Ve} {n : Int} (h : mayAdd l n = true) : l = [] ∨ ∃ y k, l.length = k + 1 ∧ k + 1 < 12 ∧ l[k]? = some y ∧ y.ver < n := by
 unfold mayAdd at h
 rw [Bool.and_eq_true, decide_eq_true_eq] at h
 cases hl : l.getLast? with
 | none => exact .inl (List.getLast?_eq_none_iff.1 hl)
 | some y =>
  rw [hl] at h
  simp only [decide_eq_true_eq] at h
  obtain ⟨h0, h1⟩ := last_get hl
  exact .inr ⟨y, l.length - 1, by omega, by omega, h1, h.2⟩
theorem add_n1 (key : ByteArray) (v : Value) (l : List Ve) (x : Ve) (w : World) (h : VsAt w v l) (hn : l.length ≤ 1000000) (h12 : (12 : Int) ≤ (l.length : Int)) :
  Calls Tryz.prog 123 #[.agg #[.string key, v], .agg #[.int .i64 x.ver, .bool x.gone, .string x.body]] w (EntAns key (l, false) w) := by
 obtain ⟨ad, cap, rfl, _⟩ := h.shape
 have h0 : Add0 w (w3 w key ad l.length cap x 45 55) key (.slice ad l.length cap) l x := ⟨by rw [w3_size]; omega, w3_below .., w3_vc .., w3_er .., w3_ec .., h.below (w3_below ..)⟩
 unfold w3 at h0
 have HC := Lib.hid (fun W' (h : VsAt W' (.slice ad l.length cap) l) => copied_p key _ l W' h hn)
 clear h
 go_enter Tryz.func123, Tryz.ntmps123
 go_wp2_with fail
 generalize ((w.alloc (.cells #[.string key, .slice ad l.length cap] 45)).alloc (.cells #[.int .i64 x.ver, .bool x.gone, .string x.body] 55)).alloc (.cells #[.string ⟨#[]⟩, .slice none 0 0] 45) = W at *
 have H0 := Lib.hid h0
 have hs := h0.1
 have hne : ¬ w.heap.size = W.heap.size := by omega
 have hne' : ¬ W.heap.size = w.heap.size := by omega
 obtain ⟨⟨c0, c1⟩, f0, f1⟩ := h0.2.2.2.2.1
 clear h0
 go_region_held3 (fun W' => W'.cell? ⟨w.heap.size, 0, none⟩ = some (.string key) ∧ W'.cell? ⟨w.heap.size, 1, none⟩ = some (.slice ad l.length cap)) (first | exact ⟨y0, y1⟩ | go_keep) (first | (go_at_call 157; refine (HC.out _ H0.out.drew.2.2.2.2.2).mono ?_; rintro e w1 ⟨ad', cap', rfl, ho, hb⟩; have k1 := H0.out.drew.below hb; obtain ⟨⟨y0, y1⟩, z0, z1⟩ := k1.2.2.2.2.1) | (go_at_call 157; refine (HC.out _ (H0.out.drew.alloc _).2.2.2.2.2).mono ?_; rintro e w1 ⟨ad', cap', rfl, ho, hb⟩; have k1 := (H0.out.drew.alloc _).below hb; obtain ⟨⟨y0, y1⟩, z0, z1⟩ := k1.2.2.2.2.1; obtain ⟨⟨p0, p1⟩, q0, q1⟩ := (show EC w1 W.heap.size ⟨#[]⟩ (.slice none 0 0) from (EC.new W.drew ⟨#[]⟩ none 0 0 45).below hb)))
 all_goals
  have hv1 : w.heap.size < w1.heap.size := by have := k1.1; omega
 case' refine_2.refine_3.refine_3.refine_3.refine_3.refine_1.refine_2.refine_1.refine_2.refine_1.refine_2.refine_3 =>
  have HS := Lib.hid (Add0.late (W := W.drew) H0.out.drew ho hb 45)
  clear y0 y1 z0 z1 k1 ho hb
  generalize w1.alloc (.cells #[.string key, .slice ad' l.length cap'] 45) = W2 at HS ⊢
  generalize w1.heap.size = X at *
 case' refine_2.refine_3.refine_3.refine_3.refine_3.refine_2.refine_1.refine_2.refine_1.refine_2.refine_1.refine_2.refine_3 =>
  have HS := Lib.hid (Add0.early (W := W.drew) (t := 45) H0.out.drew (by simpa using ho) (by simpa using hb))
  rw [show W.drew.heap.size = W.heap.size from rfl] at HS
  clear y0 y1 z0 z1 k1 ho hb p0 p1 q0 q1
  generalize (w1.setCell ⟨W.heap.size, 0, none⟩ (.string key)).setCell ⟨W.heap.size, 1, none⟩ (.slice ad' l.length cap') = W2 at HS ⊢
  generalize W.heap.size = X at *
 all_goals
  clear c0 c1 f0 f1 HC H0 hs hne hne' hv1
  obtain ⟨⟨⟨x0, x1⟩, _⟩, _, _, _, _, ⟨⟨v0, v1, v2⟩, _⟩, ⟨⟨p0, p1⟩, q0, q1⟩, ⟨⟨c0, c1⟩, _⟩, hV⟩ := HS.out
  go_wp2_with fail
  go_region
  go_wp2_with fail
  have hA := ent_answer (key := key) (w.heap.size + 1 + 1) (by omega) (by omega) HS.out.2.1 HS.out.2.2.1
  have t0 : ((W2.setCell ⟨w.heap.size + 1 + 1, 0, none⟩ (.string key)).setCell ⟨w.heap.size + 1 + 1, 1, none⟩ (.slice ad' l.length cap')).cell? ⟨w.heap.size + 1 + 1, 0, none⟩ = some (.string key) := by go_simp
  have t1 : ((W2.setCell ⟨w.heap.size + 1 + 1, 0, none⟩ (.string key)).setCell ⟨w.heap.size + 1 + 1, 1, none⟩ (.slice ad' l.length cap')).cell? ⟨w.heap.size + 1 + 1, 1, none⟩ = some (.slice ad' l.length cap') := by go_simp
  exact bodyPost_ret (v := .tuple #[.agg #[.string key, .slice ad' l.length cap'], .bool false]) (by simp [results, Tryz.results123, go_sem, t0, t1]) rfl ⟨ad', cap', rfl, hA.1, hA.2.drew⟩
theorem add_n2 (key : ByteArray) (v : Value) (l : List Ve) (x : Ve) (w : World) (h : VsAt w v l) (hn : l.length ≤ 1000000) (y : Ve) (k : Nat) (hk : l.length = k + 1) (hk12 : k + 1 < 12) (hy : l[k]? = some y) (hv : x.ver ≤ y.ver) :
  Calls Tryz.prog 123 #[.agg #[.string key, v], .agg #[.int .i64 x.ver, .bool x.gone, .string x.body]] w (EntAns key (l, false) w) := by
 have HX := Lib.hid hy
 clear hy
 have h12 : ¬ (12 : Int) ≤ (k : Int) + 1 := by omega
 have hpos : (0 : Int) < (k : Int) + 1 := by omega
 have hki : (k : Int) < (k : Int) + 1 := by omega
 have hwr : IntKind.i64.wrap (k : Int) = (k : Int) := IntWalk.i64_in _ (by omega)
 obtain ⟨ad, cap, rfl, _⟩ := h.shape
 have h0 : Add0 w (w3 w key ad l.length cap x 45 55) key (.slice ad l.length cap) l x := ⟨by rw [w3_size]; omega, w3_below .., w3_vc .., w3_er .., w3_ec .., h.below (w3_below ..)⟩
 unfold w3 at h0
 have HC := Lib.hid (fun W' (h : VsAt W' (.slice ad l.length cap) l) => copied_p key _ l W' h hn)
 clear h
 rw [hk] at h0 HC hn
 go_enter Tryz.func123, Tryz.ntmps123
 go_wp2_with fail
 generalize ((w.alloc (.cells #[.string key, .slice ad (k + 1) cap] 45)).alloc (.cells #[.int .i64 x.ver, .bool x.gone, .string x.body] 55)).alloc (.cells #[.string ⟨#[]⟩, .slice none 0 0] 45) = W at *
 have H0 := Lib.hid h0
 have hs := h0.1
 have hne : ¬ w.heap.size = W.heap.size := by omega
 have hne' : ¬ W.heap.size = w.heap.size := by omega
 obtain ⟨⟨c0, c1⟩, f0, f1⟩ := h0.2.2.2.2.1
 clear h0
 go_region_held3 (fun W' => W'.cell? ⟨w.heap.size, 0, none⟩ = some (.string key) ∧ W'.cell? ⟨w.heap.size, 1, none⟩ = some (.slice ad (k + 1) cap)) (first | exact ⟨y0, y1⟩ | go_keep) (first | (go_at_call 157; refine (HC.out _ H0.out.drew.2.2.2.2.2).mono ?_; rintro e w1 ⟨ad', cap', rfl, ho, hb⟩; have k1 := H0.out.drew.below hb; obtain ⟨⟨y0, y1⟩, z0, z1⟩ := k1.2.2.2.2.1) | (go_at_call 157; refine (HC.out _ (H0.out.drew.alloc _).2.2.2.2.2).mono ?_; rintro e w1 ⟨ad', cap', rfl, ho, hb⟩; have k1 := (H0.out.drew.alloc _).below hb; obtain ⟨⟨y0, y1⟩, z0, z1⟩ := k1.2.2.2.2.1; obtain ⟨⟨p0, p1⟩, q0, q1⟩ := (show EC w1 W.heap.size ⟨#[]⟩ (.slice none 0 0) from (EC.new W.drew ⟨#[]⟩ none 0 0 45).below hb)))
 all_goals
  have hv1 : w.heap.size < w1.heap.size := by have := k1.1; omega
 case' refine_2.refine_3.refine_3.refine_3.refine_3.refine_1.refine_2.refine_1.refine_2.refine_1.refine_2.refine_3 =>
  have HS := Lib.hid (Add0.late (W := W.drew) H0.out.drew ho hb 45)
  clear y0 y1 z0 z1 k1 ho hb
  generalize w1.alloc (.cells #[.string key, .slice ad' (k + 1) cap'] 45) = W2 at HS ⊢
  generalize w1.heap.size = X at *
 case' refine_2.refine_3.refine_3.refine_3.refine_3.refine_2.refine_1.refine_2.refine_1.refine_2.refine_1.refine_2.refine_3 =>
  have HS := Lib.hid (Add0.early (W := W.drew) (t := 45) H0.out.drew (by simpa using ho) (by simpa using hb))
  rw [show W.drew.heap.size = W.heap.size from rfl] at HS
  clear y0 y1 z0 z1 k1 ho hb p0 p1 q0 q1
  generalize (w1.setCell ⟨W.heap.size, 0, none⟩ (.string key)).setCell ⟨W.heap.size, 1, none⟩ (.slice ad' (k + 1) cap') = W2 at HS ⊢
  generalize W.heap.size = X at *
 all_goals
  clear c0 c1 f0 f1 HC H0 hs hne hne' hv1
  obtain ⟨⟨⟨x0, x1⟩, _⟩, _, _, _, _, ⟨⟨v0, v1, v2⟩, _⟩, ⟨⟨p0, p1⟩, q0, q1⟩, ⟨⟨c0, c1⟩, _⟩, hV⟩ := HS.out
  obtain ⟨g, o, rfl, e0, e1, e2, hg⟩ := hV.get HX.out
  go_wp2_with fail
  have hS0 : (World.drew W2).cell? ⟨w.heap.size, 1, none⟩ = some (.slice (some ⟨g, o, none⟩) (k + 1) cap) ∧ (World.drew W2).cell? ⟨w.heap.size + 1, 0, none⟩ = some (.int .i64 x.ver) ∧ (World.drew W2).cell? ⟨g, o + k * 3, none⟩ = some (.int .i64 y.ver) := ⟨c1, v0, e0⟩
  refine wp_region_held (S := fun W' => W'.cell? ⟨w.heap.size, 1, none⟩ = some (.slice (some ⟨g, o, none⟩) (k + 1) cap) ∧ W'.cell? ⟨w.heap.size + 1, 0, none⟩ = some (.int .i64 x.ver) ∧ W'.cell? ⟨g, o + k * 3, none⟩ = some (.int .i64 y.ver)) (by kernel_rfl) ?_
  change wpAnyH _ _ _ _ _ _ _ _ (World.drew _)
  refine tq 0 (.int .i64 ((k : Int) + 1)) rfl ?_ hS0 ?_
  ·intro w' ⟨s0, s1, s2⟩; go_simp
  refine tq 1 (.bool false) rfl ?_ hS0 ?_
  ·intro w' ⟨s0, s1, s2⟩; go_simp
  refine tq 2 (.bool false) rfl ?_ hS0 ?_
  ·intro w' ⟨s0, s1, s2⟩; go_simp
  refine tq 3 (.int .i64 ((k : Int) + 1)) rfl ?_ hS0 ?_
  ·intro w' ⟨s0, s1, s2⟩; go_simp
  refine tq 4 (.bool true) rfl ?_ hS0 ?_
  ·intro w' ⟨s0, s1, s2⟩; go_simp
  refine tq 5 (.bool true) rfl ?_ hS0 ?_
  ·intro w' ⟨s0, s1, s2⟩; go_simp
  refine tq 6 (.pointer (some ⟨w.heap.size + 1, 0, none⟩)) rfl ?_ hS0 ?_
  ·intro w' ⟨s0, s1, s2⟩; go_simp
  refine tq 7 (.int .i64 x.ver) rfl ?_ hS0 ?_
  ·intro w' ⟨s0, s1, s2⟩; go_simp
  refine tq 8 (.pointer (some ⟨w.heap.size, 1, none⟩)) rfl ?_ hS0 ?_
  ·intro w' ⟨s0, s1, s2⟩; go_simp
  refine tq 9 (.slice (some ⟨g, o, none⟩) (k + 1) cap) rfl ?_ hS0 ?_
  ·intro w' ⟨s0, s1, s2⟩; go_simp
  refine tq 10 (.int .i64 ((k : Int) + 1)) rfl ?_ hS0 ?_
  ·intro w' ⟨s0, s1, s2⟩; go_simp
  refine tq 11 (.int .i64 (k : Int)) rfl ?_ hS0 ?_
  ·intro w' ⟨s0, s1, s2⟩; go_simp
  refine tq 12 (.pointer (some ⟨g, o + k * 3, none⟩)) rfl ?_ hS0 ?_
  ·intro w' ⟨s0, s1, s2⟩; go_simp
  refine tq 13 (.pointer (some ⟨g, o + k * 3, none⟩)) rfl ?_ hS0 ?_
  ·intro w' ⟨s0, s1, s2⟩; go_simp
  refine tq 14 (.int .i64 y.ver) rfl ?_ hS0 ?_
  ·intro w' ⟨s0, s1, s2⟩; go_simp
  refine tq 15 (.bool true) rfl ?_ hS0 ?_
  ·intro w' ⟨s0, s1, s2⟩; go_simp
  refine tq 16 (.bool true) rfl ?_ hS0 ?_
  ·intro w' ⟨s0, s1, s2⟩; go_simp
  refine tq 17 (.bool true) rfl ?_ hS0 ?_
  ·intro w' ⟨s0, s1, s2⟩; go_simp
  simp only [List.getElem_toArray, List.getElem_cons_succ, List.getElem_cons_zero, Act.put, List.setIfInBounds_toArray, List.set_cons_zero, List.set_cons_succ]
  refine wpAnyH_done (by kernel_rfl) ?_ _
  go_wp2_with fail
  have hA := ent_answer (key := key) (w.heap.size + 1 + 1) (by omega) (by omega) HS.out.2.1 HS.out.2.2.1
  have t0 : ((W2.setCell ⟨w.heap.size + 1 + 1, 0, none⟩ (.string key)).setCell ⟨w.heap.size + 1 + 1, 1, none⟩ (.slice ad' (k + 1) cap')).cell? ⟨w.heap.size + 1 + 1, 0, none⟩ = some (.string key) := by go_simp
  have t1 : ((W2.setCell ⟨w.heap.size + 1 + 1, 0, none⟩ (.string key)).setCell ⟨w.heap.size + 1 + 1, 1, none⟩ (.slice ad' (k + 1) cap')).cell? ⟨w.heap.size + 1 + 1, 1, none⟩ = some (.slice ad' (k + 1) cap') := by go_simp
  exact bodyPost_ret (v := .tuple #[.agg #[.string key, .slice ad' (k + 1) cap'], .bool false]) (by simp [results, Tryz.results123, go_sem, t0, t1]) rfl ⟨ad', cap', by rw [hk], by rw [hk]; exact hA.1, hA.2.drew⟩
theorem add_y1 (key : ByteArray) (v : Value) (l : List Ve) (x : Ve) (w : World) (h : VsAt w v l) (hn : l.length ≤ 1000000) (h00 : l.length = 0) :
  Calls Tryz.prog 123 #[.agg #[.string key, v], .agg #[.int .i64 x.ver, .bool x.gone, .string x.body]] w (EntAns key (l ++ [x], true) w) := by
 obtain ⟨i0, hi, hz0, hz1, hz2⟩ := info_v
 obtain ⟨ad, cap, rfl, _⟩ := h.shape
 have h0 : Add0 w (w3 w key ad l.length cap x 45 55) key (.slice ad l.length cap) l x := ⟨by rw [w3_size]; omega, w3_below .., w3_vc .., w3_er .., w3_ec .., h.below (w3_below ..)⟩
 unfold w3 at h0
 have HC := Lib.hid (fun W' (h : VsAt W' (.slice ad l.length cap) l) => copied_p key _ l W' h hn)
 clear h
 rw [h00] at h0 HC hn
 go_enter Tryz.func123, Tryz.ntmps123
 go_wp2_with fail
 generalize ((w.alloc (.cells #[.string key, .slice ad 0 cap] 45)).alloc (.cells #[.int .i64 x.ver, .bool x.gone, .string x.body] 55)).alloc (.cells #[.string ⟨#[]⟩, .slice none 0 0] 45) = W at *
 have H0 := Lib.hid h0
 have hs := h0.1
 have hne : ¬ w.heap.size = W.heap.size := by omega
 have hne' : ¬ W.heap.size = w.heap.size := by omega
 obtain ⟨⟨c0, c1⟩, f0, f1⟩ := h0.2.2.2.2.1
 clear h0
 go_region_held3 (fun W' => W'.cell? ⟨w.heap.size, 0, none⟩ = some (.string key) ∧ W'.cell? ⟨w.heap.size, 1, none⟩ = some (.slice ad 0 cap)) (first | exact ⟨y0, y1⟩ | go_keep) (first | (go_at_call 157; refine (HC.out _ H0.out.drew.2.2.2.2.2).mono ?_; rintro e w1 ⟨ad', cap', rfl, ho, hb⟩; have k1 := H0.out.drew.below hb; obtain ⟨⟨y0, y1⟩, z0, z1⟩ := k1.2.2.2.2.1) | (go_at_call 157; refine (HC.out _ (H0.out.drew.alloc _).2.2.2.2.2).mono ?_; rintro e w1 ⟨ad', cap', rfl, ho, hb⟩; have k1 := (H0.out.drew.alloc _).below hb; obtain ⟨⟨y0, y1⟩, z0, z1⟩ := k1.2.2.2.2.1; obtain ⟨⟨p0, p1⟩, q0, q1⟩ := (show EC w1 W.heap.size ⟨#[]⟩ (.slice none 0 0) from (EC.new W.drew ⟨#[]⟩ none 0 0 45).below hb)))
 all_goals
  have hv1 : w.heap.size < w1.heap.size := by have := k1.1; omega
 case' refine_2.refine_3.refine_3.refine_3.refine_3.refine_1.refine_2.refine_1.refine_2.refine_1.refine_2.refine_3 =>
  have HS := Lib.hid (Add0.late (W := W.drew) H0.out.drew ho hb 45)
  clear y0 y1 z0 z1 k1 ho hb
  generalize w1.alloc (.cells #[.string key, .slice ad' 0 cap'] 45) = W2 at HS ⊢
  generalize w1.heap.size = X at *
 case' refine_2.refine_3.refine_3.refine_3.refine_3.refine_2.refine_1.refine_2.refine_1.refine_2.refine_1.refine_2.refine_3 =>
  have HS := Lib.hid (Add0.early (W := W.drew) (t := 45) H0.out.drew (by simpa using ho) (by simpa using hb))
  rw [show W.drew.heap.size = W.heap.size from rfl] at HS
  clear y0 y1 z0 z1 k1 ho hb p0 p1 q0 q1
  generalize (w1.setCell ⟨W.heap.size, 0, none⟩ (.string key)).setCell ⟨W.heap.size, 1, none⟩ (.slice ad' 0 cap') = W2 at HS ⊢
  generalize W.heap.size = X at *
 all_goals
  clear c0 c1 f0 f1 HC H0 hs hne hne' hv1
  obtain ⟨⟨⟨x0, x1⟩, xf0, xf1⟩, hOwn, _, hX3, _, ⟨⟨v0, v1, v2⟩, _⟩, ⟨⟨p0, p1⟩, q0, q1⟩, ⟨⟨c0, c1⟩, _⟩, hV⟩ := HS.out
  have hXne : ¬ w.heap.size + 1 + 1 = X := by omega
  have hXne' : ¬ X = w.heap.size + 1 + 1 := by omega
  have HO := Lib.hid hOwn
  clear hOwn
  have hXW : X < W2.heap.size := EC.lt (v := .slice ad' 0 cap') ⟨⟨x0, x1⟩, xf0, xf1⟩
  go_wp2_with fail
  go_region
  go_wp2_with (at_builtin; refine wpList_append_own_at _ rfl _ _ 43 rfl (w.heap.size + 3) 55 i0 _ 3 32 Tryz.underlying43 hi hz0 hz1 hz2 rfl (by decide) _ _ _ rfl (own_up HO.out h00) ⟨W2.heap.size, 0, none⟩ 1 1 [.int .i64 x.ver, .bool x.gone, .string x.body] rfl ?qc1 ?qc2 ?qc3 ?qc4 ?qc5 ?qc6 ?_)
  case qc1 => rfl
  case qc2 =>
   intro j u hj
   rw [Addr.add_lit]
   match j, hj with
   | 0, hj => simp at hj; subst hj; go_simp
   | 1, hj => simp at hj; subst hj; go_simp
   | 2, hj => simp at hj; subst hj; go_simp
  case qc3 => intro u hu; simp at hu; rcases hu with rfl | rfl | rfl <;> rfl
  case qc4 => unfold maxLen; omega
  case qc5 => omega
  case qc6 => simp; omega
  intro v2 w3 hown hgrow _ hblk
  have hown' : VOwn w3 (w.heap.size + 3) v2 (l ++ [x]) := by
   unfold VOwn
   rw [vcells_append, List.length_append, h00]
   exact hown
  obtain ⟨ad2, cap2, rfl⟩ := hown'.shape
  obtain ⟨M, hM⟩ : ∃ M, (l ++ [x]).length = M := ⟨_, rfl⟩
  rw [hM] at hown' hblk ⊢
  obtain ⟨⟨⟨m0, m1⟩, mf0, mf1⟩, ⟨⟨n0, n1⟩, nf0, nf1⟩, hO2, hB2, ⟨⟨r0, r1⟩, rf0, rf1⟩⟩ := HS.out.more _ hgrow hblk hown'
  have hA := ent_answer (key := key) (w.heap.size + 1 + 1) (by omega) (by omega) hO2 hB2
  clear hgrow hblk hown' hO2 hB2 hown
  go_wp2_with fail
  have t0 : (((w3.setCell ⟨X, 1, none⟩ (.slice ad2 M cap2)).setCell ⟨w.heap.size + 1 + 1, 0, none⟩ (.string key)).setCell ⟨w.heap.size + 1 + 1, 1, none⟩ (.slice ad2 M cap2)).cell? ⟨w.heap.size + 1 + 1, 0, none⟩ = some (.string key) := by go_simp
  have t1 : (((w3.setCell ⟨X, 1, none⟩ (.slice ad2 M cap2)).setCell ⟨w.heap.size + 1 + 1, 0, none⟩ (.string key)).setCell ⟨w.heap.size + 1 + 1, 1, none⟩ (.slice ad2 M cap2)).cell? ⟨w.heap.size + 1 + 1, 1, none⟩ = some (.slice ad2 M cap2) := by go_simp
  exact bodyPost_ret (v := .tuple #[.agg #[.string key, .slice ad2 M cap2], .bool true]) (by simp [results, Tryz.results123, go_sem, t0, t1]) rfl (by subst hM; exact ⟨ad2, cap2, rfl, hA.1, hA.2⟩)
theorem add_y2 (key : ByteArray) (v : Value) (l : List Ve) (x : Ve) (w : World) (h : VsAt w v l) (hn : l.length ≤ 1000000) (y : Ve) (k : Nat) (hk : l.length = k + 1) (hk12 : k + 1 < 12) (hy : l[k]? = some y) (hv : ¬ x.ver ≤ y.ver) :
  Calls Tryz.prog 123 #[.agg #[.string key, v], .agg #[.int .i64 x.ver, .bool x.gone, .string x.body]] w (EntAns key (l ++ [x], true) w) := by
 obtain ⟨i0, hi, hz0, hz1, hz2⟩ := info_v
 have HX := Lib.hid hy
 clear hy
 have h12 : ¬ (12 : Int) ≤ (k : Int) + 1 := by omega
 have hpos : (0 : Int) < (k : Int) + 1 := by omega
 have hki : (k : Int) < (k : Int) + 1 := by omega
 have hwr : IntKind.i64.wrap (k : Int) = (k : Int) := IntWalk.i64_in _ (by omega)
 obtain ⟨ad, cap, rfl, _⟩ := h.shape
 have h0 : Add0 w (w3 w key ad l.length cap x 45 55) key (.slice ad l.length cap) l x := ⟨by rw [w3_size]; omega, w3_below .., w3_vc .., w3_er .., w3_ec .., h.below (w3_below ..)⟩
 unfold w3 at h0
 have HC := Lib.hid (fun W' (h : VsAt W' (.slice ad l.length cap) l) => copied_p key _ l W' h hn)
 clear h
 rw [hk] at h0 HC hn
 go_enter Tryz.func123, Tryz.ntmps123
 go_wp2_with fail
 generalize ((w.alloc (.cells #[.string key, .slice ad (k + 1) cap] 45)).alloc (.cells #[.int .i64 x.ver, .bool x.gone, .string x.body] 55)).alloc (.cells #[.string ⟨#[]⟩, .slice none 0 0] 45) = W at *
 have H0 := Lib.hid h0
 have hs := h0.1
 have hne : ¬ w.heap.size = W.heap.size := by omega
 have hne' : ¬ W.heap.size = w.heap.size := by omega
 obtain ⟨⟨c0, c1⟩, f0, f1⟩ := h0.2.2.2.2.1
 clear h0
 go_region_held3 (fun W' => W'.cell? ⟨w.heap.size, 0, none⟩ = some (.string key) ∧ W'.cell? ⟨w.heap.size, 1, none⟩ = some (.slice ad (k + 1) cap)) (first | exact ⟨y0, y1⟩ | go_keep) (first | (go_at_call 157; refine (HC.out _ H0.out.drew.2.2.2.2.2).mono ?_; rintro e w1 ⟨ad', cap', rfl, ho, hb⟩; have k1 := H0.out.drew.below hb; obtain ⟨⟨y0, y1⟩, z0, z1⟩ := k1.2.2.2.2.1) | (go_at_call 157; refine (HC.out _ (H0.out.drew.alloc _).2.2.2.2.2).mono ?_; rintro e w1 ⟨ad', cap', rfl, ho, hb⟩; have k1 := (H0.out.drew.alloc _).below hb; obtain ⟨⟨y0, y1⟩, z0, z1⟩ := k1.2.2.2.2.1; obtain ⟨⟨p0, p1⟩, q0, q1⟩ := (show EC w1 W.heap.size ⟨#[]⟩ (.slice none 0 0) from (EC.new W.drew ⟨#[]⟩ none 0 0 45).below hb)))
 all_goals
  have hv1 : w.heap.size < w1.heap.size := by have := k1.1; omega
 case' refine_2.refine_3.refine_3.refine_3.refine_3.refine_1.refine_2.refine_1.refine_2.refine_1.refine_2.refine_3 =>
  have HS := Lib.hid (Add0.late (W := W.drew) H0.out.drew ho hb 45)
  clear y0 y1 z0 z1 k1 ho hb
  generalize w1.alloc (.cells #[.string key, .slice ad' (k + 1) cap'] 45) = W2 at HS ⊢
  generalize w1.heap.size = X at *
 case' refine_2.refine_3.refine_3.refine_3.refine_3.refine_2.refine_1.refine_2.refine_1.refine_2.refine_1.refine_2.refine_3 =>
  have HS := Lib.hid (Add0.early (W := W.drew) (t := 45) H0.out.drew (by simpa using ho) (by simpa using hb))
  rw [show W.drew.heap.size = W.heap.size from rfl] at HS
  clear y0 y1 z0 z1 k1 ho hb p0 p1 q0 q1
  generalize (w1.setCell ⟨W.heap.size, 0, none⟩ (.string key)).setCell ⟨W.heap.size, 1, none⟩ (.slice ad' (k + 1) cap') = W2 at HS ⊢
  generalize W.heap.size = X at *
 all_goals
  clear c0 c1 f0 f1 HC H0 hs hne hne' hv1
  obtain ⟨⟨⟨x0, x1⟩, xf0, xf1⟩, hOwn, _, hX3, _, ⟨⟨v0, v1, v2⟩, _⟩, ⟨⟨p0, p1⟩, q0, q1⟩, ⟨⟨c0, c1⟩, _⟩, hV⟩ := HS.out
  have hXne : ¬ w.heap.size + 1 + 1 = X := by omega
  have hXne' : ¬ X = w.heap.size + 1 + 1 := by omega
  have HO := Lib.hid hOwn
  clear hOwn
  obtain ⟨g, o, rfl, e0, e1, e2, hg⟩ := hV.get HX.out
  have hXW : X < W2.heap.size := EC.lt (v := .slice ad' (k + 1) cap') ⟨⟨x0, x1⟩, xf0, xf1⟩
  go_wp2_with fail
  have hS0 : (World.drew W2).cell? ⟨w.heap.size, 1, none⟩ = some (.slice (some ⟨g, o, none⟩) (k + 1) cap) ∧ (World.drew W2).cell? ⟨w.heap.size + 1, 0, none⟩ = some (.int .i64 x.ver) ∧ (World.drew W2).cell? ⟨g, o + k * 3, none⟩ = some (.int .i64 y.ver) := ⟨c1, v0, e0⟩
  refine wp_region_held (S := fun W' => W'.cell? ⟨w.heap.size, 1, none⟩ = some (.slice (some ⟨g, o, none⟩) (k + 1) cap) ∧ W'.cell? ⟨w.heap.size + 1, 0, none⟩ = some (.int .i64 x.ver) ∧ W'.cell? ⟨g, o + k * 3, none⟩ = some (.int .i64 y.ver)) (by kernel_rfl) ?_
  change wpAnyH _ _ _ _ _ _ _ _ (World.drew _)
  refine tq 0 (.int .i64 ((k : Int) + 1)) rfl ?_ hS0 ?_
  ·intro w' ⟨s0, s1, s2⟩; go_simp
  refine tq 1 (.bool false) rfl ?_ hS0 ?_
  ·intro w' ⟨s0, s1, s2⟩; go_simp
  refine tq 2 (.bool false) rfl ?_ hS0 ?_
  ·intro w' ⟨s0, s1, s2⟩; go_simp
  refine tq 3 (.int .i64 ((k : Int) + 1)) rfl ?_ hS0 ?_
  ·intro w' ⟨s0, s1, s2⟩; go_simp
  refine tq 4 (.bool true) rfl ?_ hS0 ?_
  ·intro w' ⟨s0, s1, s2⟩; go_simp
  refine tq 5 (.bool true) rfl ?_ hS0 ?_
  ·intro w' ⟨s0, s1, s2⟩; go_simp
  refine tq 6 (.pointer (some ⟨w.heap.size + 1, 0, none⟩)) rfl ?_ hS0 ?_
  ·intro w' ⟨s0, s1, s2⟩; go_simp
  refine tq 7 (.int .i64 x.ver) rfl ?_ hS0 ?_
  ·intro w' ⟨s0, s1, s2⟩; go_simp
  refine tq 8 (.pointer (some ⟨w.heap.size, 1, none⟩)) rfl ?_ hS0 ?_
  ·intro w' ⟨s0, s1, s2⟩; go_simp
  refine tq 9 (.slice (some ⟨g, o, none⟩) (k + 1) cap) rfl ?_ hS0 ?_
  ·intro w' ⟨s0, s1, s2⟩; go_simp
  refine tq 10 (.int .i64 ((k : Int) + 1)) rfl ?_ hS0 ?_
  ·intro w' ⟨s0, s1, s2⟩; go_simp
  refine tq 11 (.int .i64 (k : Int)) rfl ?_ hS0 ?_
  ·intro w' ⟨s0, s1, s2⟩; go_simp
  refine tq 12 (.pointer (some ⟨g, o + k * 3, none⟩)) rfl ?_ hS0 ?_
  ·intro w' ⟨s0, s1, s2⟩; go_simp
  refine tq 13 (.pointer (some ⟨g, o + k * 3, none⟩)) rfl ?_ hS0 ?_
  ·intro w' ⟨s0, s1, s2⟩; go_simp
  refine tq 14 (.int .i64 y.ver) rfl ?_ hS0 ?_
  ·intro w' ⟨s0, s1, s2⟩; go_simp
  refine tq 15 (.bool false) rfl ?_ hS0 ?_
  ·intro w' ⟨s0, s1, s2⟩; go_simp
  refine tq 16 (.bool false) rfl ?_ hS0 ?_
  ·intro w' ⟨s0, s1, s2⟩; go_simp
  refine tq 17 (.bool false) rfl ?_ hS0 ?_
  ·intro w' ⟨s0, s1, s2⟩; go_simp
  simp only [List.getElem_toArray, List.getElem_cons_succ, List.getElem_cons_zero, Act.put, List.setIfInBounds_toArray, List.set_cons_zero, List.set_cons_succ]
  refine wpAnyH_done (by kernel_rfl) ?_ _
  go_wp2_with (at_builtin; refine wpList_append_own_at _ rfl _ _ 43 rfl (w.heap.size + 3) 55 i0 _ 3 32 Tryz.underlying43 hi hz0 hz1 hz2 rfl (by decide) _ _ _ rfl (own_up HO.out hk) ⟨W2.heap.size, 0, none⟩ 1 1 [.int .i64 x.ver, .bool x.gone, .string x.body] rfl ?qc1 ?qc2 ?qc3 ?qc4 ?qc5 ?qc6 ?_)
  case qc1 => rfl
  case qc2 =>
   intro j u hj
   rw [Addr.add_lit]
   match j, hj with
   | 0, hj => simp at hj; subst hj; go_simp
   | 1, hj => simp at hj; subst hj; go_simp
   | 2, hj => simp at hj; subst hj; go_simp
  case qc3 => intro u hu; simp at hu; rcases hu with rfl | rfl | rfl <;> rfl
  case qc4 => unfold maxLen; omega
  case qc5 => omega
  case qc6 => simp; omega
  intro v2 w3 hown hgrow _ hblk
  have hown' : VOwn w3 (w.heap.size + 3) v2 (l ++ [x]) := by
   unfold VOwn
   rw [vcells_append, List.length_append, hk]
   exact hown
  obtain ⟨ad2, cap2, rfl⟩ := hown'.shape
  obtain ⟨M, hM⟩ : ∃ M, (l ++ [x]).length = M := ⟨_, rfl⟩
  rw [hM] at hown' hblk ⊢
  obtain ⟨⟨⟨m0, m1⟩, mf0, mf1⟩, ⟨⟨n0, n1⟩, nf0, nf1⟩, hO2, hB2, ⟨⟨r0, r1⟩, rf0, rf1⟩⟩ := HS.out.more _ hgrow hblk hown'
  have hA := ent_answer (key := key) (w.heap.size + 1 + 1) (by omega) (by omega) hO2 hB2
  clear hgrow hblk hown' hO2 hB2 hown
  go_wp2_with fail
  have t0 : (((w3.setCell ⟨X, 1, none⟩ (.slice ad2 M cap2)).setCell ⟨w.heap.size + 1 + 1, 0, none⟩ (.string key)).setCell ⟨w.heap.size + 1 + 1, 1, none⟩ (.slice ad2 M cap2)).cell? ⟨w.heap.size + 1 + 1, 0, none⟩ = some (.string key) := by go_simp
  have t1 : (((w3.setCell ⟨X, 1, none⟩ (.slice ad2 M cap2)).setCell ⟨w.heap.size + 1 + 1, 0, none⟩ (.string key)).setCell ⟨w.heap.size + 1 + 1, 1, none⟩ (.slice ad2 M cap2)).cell? ⟨w.heap.size + 1 + 1, 1, none⟩ = some (.slice ad2 M cap2) := by go_simp
  exact bodyPost_ret (v := .tuple #[.agg #[.string key, .slice ad2 M cap2], .bool true]) (by simp [results, Tryz.results123, go_sem, t0, t1]) rfl (by subst hM; exact ⟨ad2, cap2, rfl, hA.1, hA.2⟩)
theorem add_p (key : ByteArray) (v : Value) (l : List Ve) (x : Ve) (w : World) (h : VsAt w v l) (hn : l.length ≤ 1000000) :
  Calls Tryz.prog 123 #[.agg #[.string key, v], .agg #[.int .i64 x.ver, .bool x.gone, .string x.body]] w (EntAns key (addE l x) w) := by
 unfold addE
 cases hm : mayAdd l x.ver with
 | false =>
  rw [if_neg (by simp)]
  rcases mayAdd_no hm with h1 | ⟨y, k, h1, h2, h3, h4⟩
  ·exact add_n1 key v l x w h hn (by omega)
  ·exact add_n2 key v l x w h hn y k h1 h2 h3 h4
 | true =>
  rw [if_pos rfl]
  rcases mayAdd_yes hm with h1 | ⟨y, k, h1, h2, h3, h4⟩
  ·exact add_y1 key v l x w h hn (by rw [h1]; rfl)
  ·exact add_y2 key v l x w h hn y k h1 h2 h3 (by omega)
end Go.Proofs.YtlpgphiccjkenaaGreatDoor
