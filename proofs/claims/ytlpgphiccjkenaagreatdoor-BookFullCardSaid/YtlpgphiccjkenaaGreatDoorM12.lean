/-
 Contracts of the program, and what they rest on.
-/
import Derived.Test.YtlpgphiccjkenaaGreatDoorM11
import Derived.Test.YtlpgphiccjkenaaGreatDoorShelf
import Derived.Test.YtlpgphiccjkenaaGreatDoorM09
set_option maxRecDepth 100000
set_option maxHeartbeats 16000000
namespace Go.Proofs.YtlpgphiccjkenaaGreatDoor
open Go.RowKit
def ecells : List (ByteArray × Value) → List Value
 | [] => []
 | p :: r => .string p.1 :: p.2 :: ecells r
theorem ecells_append (l m : List (ByteArray × Value)) : ecells (l ++ m) = ecells l ++ ecells m := by
 induction l with
 | nil => rfl
 | cons v r ih => simp [ecells, ih]
theorem ecells_length (l : List (ByteArray × Value)) : (ecells l).length = l.length * 2 := by
 induction l with
 | nil => rfl
 | cons v r ih => simp only [ecells, List.length_cons, ih]; omega
theorem ecells_get : ∀ (l : List (ByteArray × Value)) (j : Nat) (p : ByteArray × Value), l[j]? = some p → (ecells l)[j * 2]? = some (.string p.1) ∧ (ecells l)[j * 2 + 1]? = some p.2
 | [], j, v, h => by simp at h
 | x :: r, 0, v, h => by
  simp at h
  subst h
  exact ⟨rfl, rfl⟩
 | x :: r, j + 1, v, h => by
  have := ecells_get r j v (by simpa using h)
  rw [show (j + 1) * 2 = (j * 2) + 1 + 1 by omega]
  exact this
theorem ecells_take : ∀ (l : List (ByteArray × Value)) (k : Nat), (ecells l).take (k * 2) = ecells (l.take k)
 | l, 0 => by simp [ecells]
 | [], k + 1 => by simp [ecells]
 | v :: r, k + 1 => by
  rw [show (k + 1) * 2 = k * 2 + 1 + 1 by omega]
  simp only [ecells, List.take_succ_cons, ecells_take r k]
theorem ecells_drop : ∀ (l : List (ByteArray × Value)) (k : Nat), (ecells l).drop (k * 2) = ecells (l.drop k)
 | l, 0 => by simp
 | [], k + 1 => by simp [ecells]
 | v :: r, k + 1 => by
  rw [show (k + 1) * 2 = k * 2 + 1 + 1 by omega]
  simp only [ecells, List.drop_succ_cons, ecells_drop r k]
theorem ecells_set : ∀ (l : List (ByteArray × Value)) (k : Nat) (p : ByteArray × Value) (u : Value), l[k]? = some p → (ecells l).set (k * 2 + 1) u = ecells (l.set k (p.1, u))
 | [], _, _, _, h => by simp at h
 | x :: r, 0, p, u, h => by
  simp at h
  subst h
  rfl
 | x :: r, k + 1, p, u, h => by
  rw [show (k + 1) * 2 + 1 = (k * 2 + 1) + 1 + 1 by omega]
  simp only [ecells, List.set_cons_succ, ecells_set r k p u (by simpa using h)]
theorem ecells_set0 : ∀ (l : List (ByteArray × Value)) (k : Nat) (p : ByteArray × Value), l[k]? = some p → (ecells l).set (k * 2) (.string p.1) = ecells l
 | [], _, _, h => by simp at h
 | x :: r, 0, p, h => by
  simp at h
  subst h
  rfl
 | x :: r, k + 1, p, h => by
  rw [show (k + 1) * 2 = (k * 2) + 1 + 1 by omega]
  simp only [ecells, List.set_cons_succ, ecells_set0 r k p (by simpa using h)]
def Fit (R : Value → List Ve → Prop) : List En → List (ByteArray × Value) → Prop
 | [], [] => True
 | e :: r, p :: q => p.1 = e.key ∧ R p.2 e.vs ∧ Fit R r q
 | _, _ => False
theorem Fit.len {R : Value → List Ve → Prop} : ∀ {l : List En} {ps : List (ByteArray × Value)}, Fit R l ps → ps.length = l.length
 | [], [], _ => rfl
 | _ :: _, _ :: _, h => by simp [Fit.len h.2.2]
 | [], _ :: _, h => h.elim
 | _ :: _, [], h => h.elim
theorem Fit.get {R : Value → List Ve → Prop} : ∀ {l : List En} {ps : List (ByteArray × Value)} {j : Nat} {e : En}, Fit R l ps → l[j]? = some e → ∃ p, ps[j]? = some p ∧ p.1 = e.key ∧ R p.2 e.vs
 | _ :: _, p :: _, 0, e, h, he => by simp at he; subst he; exact ⟨p, rfl, h.1, h.2.1⟩
 | _ :: r, _ :: q, j + 1, e, h, he => by simpa using Fit.get h.2.2 (by simpa using he)
 | [], _, _, _, _, he => by simp at he
 | _ :: _, [], _, _, h, _ => h.elim
theorem Fit.map {R R' : Value → List Ve → Prop} (hm : ∀ v l, R v l → R' v l) : ∀ {l : List En} {ps : List (ByteArray × Value)}, Fit R l ps → Fit R' l ps
 | [], [], _ => trivial
 | _ :: _, _ :: _, h => ⟨h.1, hm _ _ h.2.1, Fit.map hm h.2.2⟩
 | [], _ :: _, h => h.elim
 | _ :: _, [], h => h.elim
theorem Fit.append {R : Value → List Ve → Prop} : ∀ {l m : List En} {ps qs : List (ByteArray × Value)}, Fit R l ps → Fit R m qs → Fit R (l ++ m) (ps ++ qs)
 | [], _, [], _, _, h => h
 | _ :: _, _, _ :: _, _, h, h' => ⟨h.1, h.2.1, Fit.append h.2.2 h'⟩
 | [], _, _ :: _, _, h, _ => h.elim
 | _ :: _, _, [], _, h, _ => h.elim
theorem Fit.take {R : Value → List Ve → Prop} : ∀ {l : List En} {ps : List (ByteArray × Value)} (k : Nat), Fit R l ps → Fit R (l.take k) (ps.take k)
 | _, _, 0, _ => by simp [Fit]
 | [], [], _ + 1, _ => by simp [Fit]
 | _ :: _, _ :: _, k + 1, h => ⟨h.1, h.2.1, Fit.take k h.2.2⟩
 | [], _ :: _, _ + 1, h => h.elim
 | _ :: _, [], _ + 1, h => h.elim
theorem Fit.drop {R : Value → List Ve → Prop} : ∀ {l : List En} {ps : List (ByteArray × Value)} (k : Nat), Fit R l ps → Fit R (l.drop k) (ps.drop k)
 | _, _, 0, h => by simpa using h
 | [], [], _ + 1, _ => by simp [Fit]
 | _ :: _, _ :: _, k + 1, h => by simpa using Fit.drop k h.2.2
 | [], _ :: _, _ + 1, h => h.elim
 | _ :: _, [], _ + 1, h => h.elim
theorem Fit.set {R : Value → List Ve → Prop} : ∀ {l : List En} {ps : List (ByteArray × Value)} {k : Nat} {u : Value} {vs : List Ve} {e : En}, Fit R l ps → l[k]? = some e → R u vs → Fit R (l.set k ⟨e.key, vs⟩) (ps.set k (e.key, u))
 | _ :: _, _ :: _, 0, u, vs, e, h, he, hu => by
  simp at he
  subst he
  exact ⟨rfl, hu, h.2.2⟩
 | _ :: _, _ :: _, k + 1, u, vs, e, h, he, hu => ⟨h.1, h.2.1, Fit.set h.2.2 (by simpa using he) hu⟩
 | [], _, _, _, _, _, _, he, _ => by simp at he
 | _ :: _, [], _, _, _, _, h, _, _ => h.elim
theorem VsAt.one {w : World} {v : Value} {l : List Ve} (h : VsAt w v l) : v.oneCell' = true := by
 obtain ⟨ad, cap, rfl, _⟩ := h.shape
 rfl
theorem VOwn.one {w : World} {B : Nat} {v : Value} {l : List Ve} (h : VOwn w B v l) : v.oneCell' = true := h.at.one
theorem Fit.one {R : Value → List Ve → Prop} (h1 : ∀ v l, R v l → v.oneCell' = true) : ∀ {l : List En} {ps : List (ByteArray × Value)}, Fit R l ps → ∀ u ∈ ecells ps, u.oneCell' = true
 | [], [], _, u, hu => by cases hu
 | _ :: _, p :: q, h, u, hu => by
  simp only [ecells, List.mem_cons] at hu
  rcases hu with rfl | rfl | hu
  ·rfl
  ·exact h1 _ _ h.2.1
  ·exact Fit.one h1 h.2.2 u hu
 | [], _ :: _, h, _, _ => h.elim
 | _ :: _, [], h, _, _ => h.elim
def EsAt (w : World) (v : Value) (l : List En) : Prop :=
 (v = .slice none 0 0 ∧ l = []) ∨ ∃ g o cap ps, v = .slice (some ⟨g, o, none⟩) l.length cap ∧ l.length ≤ cap ∧ cap ≤ maxLen ∧ g < w.heap.size ∧
  (∀ j u, (ecells ps)[j]? = some u → w.cell? ⟨g, o + j, none⟩ = some u) ∧ Fit (VsAt w) l ps
theorem EsAt.below {w w' : World} {v : Value} {l : List En} (h : EsAt w v l) (hb : Below w.heap.size w w') : EsAt w' v l := by
 rcases h with h | ⟨g, o, cap, ps, rfl, h1, h2, h3, h4, h5⟩
 ·exact .inl h
 ·refine .inr ⟨g, o, cap, ps, rfl, h1, h2, Nat.lt_of_lt_of_le h3 hb.size, fun j u hu => ?_, h5.map (fun _ _ h => h.below hb)⟩
  have c (i : Nat) : w'.cell? ⟨g, i, none⟩ = w.cell? ⟨g, i, none⟩ := World.cell?_of_block (a := ⟨g, i, none⟩) (hb.block g h3)
  rw [c]
  exact h4 j u hu
theorem EsAt.shape {w : World} {v : Value} {l : List En} (h : EsAt w v l) : ∃ ad cap, v = .slice ad l.length cap ∧ l.length ≤ cap := by
 rcases h with ⟨rfl, rfl⟩ | ⟨g, o, cap, ps, rfl, h1, _⟩
 ·exact ⟨_, _, rfl, Nat.le_refl _⟩
 ·exact ⟨_, _, rfl, h1⟩
theorem EsAt.get {w : World} {ad : Option Addr} {n c : Nat} {l : List En} (h : EsAt w (.slice ad n c) l) {j : Nat} {x : En} (hx : l[j]? = some x) :
  ∃ g o a m, ad = some ⟨g, o, none⟩ ∧ w.cell? ⟨g, o + j * 2, none⟩ = some (.string x.key) ∧ w.cell? ⟨g, o + j * 2 + 1, none⟩ = some (.slice a x.vs.length m) ∧ g < w.heap.size ∧ VsAt w (.slice a x.vs.length m) x.vs := by
 rcases h with ⟨_, h0⟩ | ⟨g, o, cap', ps, e, _, _, h3, h4, h5⟩
 ·rw [h0] at hx
  simp at hx
 ·simp only [Value.slice.injEq] at e
  obtain ⟨p, hp, hk, hv⟩ := h5.get hx
  obtain ⟨c0, c1⟩ := ecells_get ps j p hp
  have k0 := h4 _ _ c0
  have k1 := h4 _ _ c1
  obtain ⟨ad', m, hs, _⟩ := hv.shape
  rw [hs] at k1 hv
  exact ⟨g, o, ad', m, e.1, by rw [k0, hk], by rw [Nat.add_assoc]; exact k1, h3, hv⟩
def mcells : List Me → List Value
 | [] => []
 | m :: r => .int .i64 m.req :: .int .i64 m.res.err :: .int .i64 m.res.ver :: mcells r
theorem mcells_append (l m : List Me) : mcells (l ++ m) = mcells l ++ mcells m := by
 induction l with
 | nil => rfl
 | cons v r ih => simp [mcells, ih]
theorem mcells_length (l : List Me) : (mcells l).length = l.length * 3 := by
 induction l with
 | nil => rfl
 | cons v r ih => simp only [mcells, List.length_cons, ih]; omega
theorem mcells_one (l : List Me) : ∀ u ∈ mcells l, u.oneCell' = true := by
 induction l with
 | nil => intro u h; cases h
 | cons e r ih =>
  intro u h
  simp only [mcells, List.mem_cons] at h
  rcases h with rfl | rfl | rfl | h
  ·rfl
  ·rfl
  ·rfl
  ·exact ih u h
theorem mcells_get : ∀ (l : List Me) (j : Nat) (v : Me), l[j]? = some v → (mcells l)[j * 3]? = some (.int .i64 v.req) ∧ (mcells l)[j * 3 + 1]? = some (.int .i64 v.res.err) ∧ (mcells l)[j * 3 + 2]? = some (.int .i64 v.res.ver)
 | [], j, v, h => by simp at h
 | x :: r, 0, v, h => by
  simp at h
  subst h
  exact ⟨rfl, rfl, rfl⟩
 | x :: r, j + 1, v, h => by
  have := mcells_get r j v (by simpa using h)
  rw [show (j + 1) * 3 = (j * 3) + 1 + 1 + 1 by omega]
  exact this
theorem mcells_take : ∀ (l : List Me) (k : Nat), (mcells l).take (k * 3) = mcells (l.take k)
 | l, 0 => by simp [mcells]
 | [], k + 1 => by simp [mcells]
 | v :: r, k + 1 => by
  rw [show (k + 1) * 3 = k * 3 + 1 + 1 + 1 by omega]
  simp only [mcells, List.take_succ_cons, mcells_take r k]
theorem mcells_drop : ∀ (l : List Me) (k : Nat), (mcells l).drop (k * 3) = mcells (l.drop k)
 | l, 0 => by simp
 | [], k + 1 => by simp [mcells]
 | v :: r, k + 1 => by
  rw [show (k + 1) * 3 = k * 3 + 1 + 1 + 1 by omega]
  simp only [mcells, List.drop_succ_cons, mcells_drop r k]
def MsAt (w : World) (v : Value) (l : List Me) : Prop :=
 (v = .slice none 0 0 ∧ l = []) ∨ ∃ g o cap, v = .slice (some ⟨g, o, none⟩) l.length cap ∧ l.length ≤ cap ∧ cap ≤ maxLen ∧ g < w.heap.size ∧
  ∀ j u, (mcells l)[j]? = some u → w.cell? ⟨g, o + j, none⟩ = some u
theorem MsAt.below {w w' : World} {v : Value} {l : List Me} (h : MsAt w v l) (hb : Below w.heap.size w w') : MsAt w' v l := by
 rcases h with h | ⟨g, o, cap, rfl, h1, h2, h3, h4⟩
 ·exact .inl h
 ·refine .inr ⟨g, o, cap, rfl, h1, h2, Nat.lt_of_lt_of_le h3 hb.size, fun j u hu => ?_⟩
  have c (i : Nat) : w'.cell? ⟨g, i, none⟩ = w.cell? ⟨g, i, none⟩ := World.cell?_of_block (a := ⟨g, i, none⟩) (hb.block g h3)
  rw [c]
  exact h4 j u hu
theorem MsAt.shape {w : World} {v : Value} {l : List Me} (h : MsAt w v l) : ∃ ad cap, v = .slice ad l.length cap ∧ l.length ≤ cap := by
 rcases h with ⟨rfl, rfl⟩ | ⟨g, o, cap, rfl, h1, _⟩
 ·exact ⟨_, _, rfl, Nat.le_refl _⟩
 ·exact ⟨_, _, rfl, h1⟩
theorem MsAt.get {w : World} {ad : Option Addr} {n c : Nat} {l : List Me} (h : MsAt w (.slice ad n c) l) {j : Nat} {x : Me} (hx : l[j]? = some x) :
  ∃ g o, ad = some ⟨g, o, none⟩ ∧ w.cell? ⟨g, o + j * 3, none⟩ = some (.int .i64 x.req) ∧ w.cell? ⟨g, o + j * 3 + 1, none⟩ = some (.int .i64 x.res.err) ∧ w.cell? ⟨g, o + j * 3 + 2, none⟩ = some (.int .i64 x.res.ver) ∧ g < w.heap.size := by
 rcases h with ⟨_, h0⟩ | ⟨g, o, cap', e, _, _, h3, h4⟩
 ·rw [h0] at hx
  simp at hx
 ·simp only [Value.slice.injEq] at e
  obtain ⟨a, b, c⟩ := mcells_get l j x hx
  exact ⟨g, o, e.1, h4 _ _ a, by rw [Nat.add_assoc]; exact h4 _ _ b, by rw [Nat.add_assoc]; exact h4 _ _ c, h3⟩
def MOwn (w : World) (B : Nat) (v : Value) (l : List Me) : Prop := w.ownsRow B 76 3 v l.length (mcells l)
def EOwn (w : World) (B : Nat) (v : Value) (l : List En) : Prop := ∃ ps, w.ownsRow B 45 2 v l.length (ecells ps) ∧ Fit (VOwn w B) l ps
theorem EOwn.at {w : World} {B : Nat} {v : Value} {l : List En} (h : EOwn w B v l) : EsAt w v l := by
 obtain ⟨ps, h, hf⟩ := h
 have hc := h
 rcases h.2 with ⟨rfl, h0⟩ | ⟨g, cap, cur, rfl, hb, hg, h1, h2, h3, h4⟩
 ·exact .inl ⟨rfl, List.length_eq_zero_iff.1 h0⟩
 ·refine .inr ⟨g, 0, cap, ps, rfl, h1, h2, (Array.getElem?_eq_some_iff.1 hg).1, fun j u hu => ?_, hf.map (fun _ _ h => h.at)⟩
  have k0 := World.ownsRow.cells hc (g := g) rfl _ _ hu
  rw [Addr.add_lit] at k0
  exact k0
theorem EOwn.lt {w : World} {B : Nat} {v : Value} {l : List En} (h : EOwn w B v l) {g : Nat} (hg : v.ownBlock = some g) : B ≤ g ∧ g < w.heap.size := by
 obtain ⟨ps, h, _⟩ := h
 exact h.lt g hg
theorem row_kept {w w' : World} {B k n : Nat} {T : TypeId} {v : Value} {cs : List Value} (h : w.ownsRow B T k v n cs) (hk : ∀ g, v.ownBlock = some g → w'.heap[g]? = w.heap[g]?) : w'.ownsRow B T k v n cs := by
 obtain ⟨h1, h2⟩ := h
 refine ⟨h1, ?_⟩
 rcases h2 with h2 | ⟨g, cap, cur, hv, hg, hh, r⟩
 ·exact .inl h2
 ·exact .inr ⟨g, cap, cur, hv, hg, by rw [hk g (by rw [hv]; rfl)]; exact hh, r⟩
theorem row_mono {w : World} {B B' k n : Nat} {T : TypeId} {v : Value} {cs : List Value} (h : w.ownsRow B T k v n cs) (hB : B' ≤ B) : w.ownsRow B' T k v n cs := by
 obtain ⟨h1, h2⟩ := h
 refine ⟨h1, ?_⟩
 rcases h2 with h2 | ⟨g, cap, cur, hv, hg, r⟩
 ·exact .inl h2
 ·exact .inr ⟨g, cap, cur, hv, by omega, r⟩
theorem EOwn.below {w w' : World} {B : Nat} {v : Value} {l : List En} (h : EOwn w B v l) (hb : Below w.heap.size w w') : EOwn w' B v l := by
 obtain ⟨ps, h, hf⟩ := h
 exact ⟨ps, row_kept h (fun g hg => hb.block g (h.lt g hg).2), hf.map (fun _ _ hv => hv.below hb)⟩
theorem EOwn.mono {w : World} {B B' : Nat} {v : Value} {l : List En} (h : EOwn w B v l) (hB : B' ≤ B) : EOwn w B' v l := by
 obtain ⟨ps, h, hf⟩ := h
 exact ⟨ps, row_mono h hB, hf.map (fun _ _ hv => hv.mono hB)⟩
theorem MOwn.below {w w' : World} {B : Nat} {v : Value} {l : List Me} (h : MOwn w B v l) (hb : Below w.heap.size w w') : MOwn w' B v l :=
 row_kept h (fun g hg => hb.block g (World.ownsRow.lt h g hg).2)
theorem MOwn.mono {w : World} {B B' : Nat} {v : Value} {l : List Me} (h : MOwn w B v l) (hB : B' ≤ B) : MOwn w B' v l := row_mono h hB
theorem MOwn.at {w : World} {B : Nat} {v : Value} {l : List Me} (h : MOwn w B v l) : MsAt w v l := by
 have hc := h
 rcases h.2 with ⟨rfl, h0⟩ | ⟨g, cap, cur, rfl, hb, hg, h1, h2, h3, h4⟩
 ·exact .inl ⟨rfl, List.length_eq_zero_iff.1 h0⟩
 ·refine .inr ⟨g, 0, cap, rfl, h1, h2, (Array.getElem?_eq_some_iff.1 hg).1, fun j u hu => ?_⟩
  have := World.ownsRow.cells hc (g := g) rfl _ _ hu
  rw [Addr.add_lit] at this
  exact this
theorem MOwn.shape {w : World} {B : Nat} {v : Value} {l : List Me} (h : MOwn w B v l) : ∃ ad cap, v = .slice ad l.length cap := by
 obtain ⟨ad, cap, h, _⟩ := h.at.shape
 exact ⟨ad, cap, h⟩
theorem rows_apart {w : World} {B B' k k' n n' : Nat} {T T' : TypeId} {v v' : Value} {cs cs' : List Value} (h : w.ownsRow B T k v n cs) (h' : w.ownsRow B' T' k' v' n' cs') (hT : T ≠ T') {g : Nat} (hg : v.ownBlock = some g) : v'.ownBlock ≠ some g := by
 intro hg'
 rcases h.2 with ⟨rfl, _⟩ | ⟨g1, _, _, rfl, _, hh, _⟩
 ·cases hg
 ·rcases h'.2 with ⟨rfl, _⟩ | ⟨g2, _, _, rfl, _, hh', _⟩
  ·cases hg'
  ·cases hg
   cases hg'
   rw [hh] at hh'
   simp only [Option.some.injEq, Obj.cells.injEq] at hh'
   exact hT hh'.2.1
theorem row_set {w : World} {B k n g j : Nat} {T : TypeId} {v x : Value} {cs : List Value} (h : w.ownsRow B T k v n cs) (hg : v.ownBlock = some g) : (w.setCell ⟨g, j, none⟩ x).ownsRow B T k v n (cs.set j x) := by
 obtain ⟨h1, h2⟩ := h
 refine ⟨by rw [List.length_set]; exact h1, ?_⟩
 rcases h2 with ⟨rfl, _⟩ | ⟨g', cap, cur, rfl, hB, hh, hn, hm, hs, ht⟩
 ·cases hg
 ·cases hg
  refine .inr ⟨g', cap, _, rfl, hB, heap_setCell_same w g' j cur T x hh, hn, hm, by simpa using hs, ?_⟩
  rw [Array.toList_setIfInBounds, List.take_set, ht]
theorem EOwn.set {w : World} {B g k : Nat} {v u : Value} {l : List En} {e : En} {vs : List Ve} (h : EOwn w B v l) (hg : v.ownBlock = some g) (he : l[k]? = some e) (hu : VOwn w B u vs) :
  EOwn ((w.setCell ⟨g, k * 2, none⟩ (.string e.key)).setCell ⟨g, k * 2 + 1, none⟩ u) B v (l.set k ⟨e.key, vs⟩) := by
 obtain ⟨ps, h, hf⟩ := h
 obtain ⟨p, hp, hk, hpv⟩ := hf.get he
 have hap : ∀ (x : Value) (m : List Ve), VOwn w B x m → VOwn ((w.setCell ⟨g, k * 2, none⟩ (.string e.key)).setCell ⟨g, k * 2 + 1, none⟩ u) B x m := fun x m hx =>
  hx.kept (fun g' hg' => by
   have hne : g' ≠ g := fun e => by
    subst e
    exact rows_apart (T := 55) hx h (by decide) hg' hg
   rw [Below.heap_setCell _ _ _ _ hne, Below.heap_setCell _ _ _ _ hne])
 refine ⟨ps.set k (e.key, u), ?_, Fit.set (hf.map hap) he (hap _ _ hu)⟩
 have r1 := row_set (j := k * 2) (x := .string e.key) h hg
 have r2 := row_set (j := k * 2 + 1) (x := u) r1 hg
 rw [← hk, ecells_set0 ps k p hp, ecells_set ps k p u hp, hk] at r2
 rw [List.length_set, ← hk]
 rw [hk]
 exact r2
def bagg (s : Bk) (u v : Value) : Value := .agg #[.int .i64 s.seq, u, v, .int .i64 s.l1, .int .i64 s.l2, .int .i64 s.l3, .int .i64 s.l4, .int .i64 s.l5]
def bcells (s : Bk) (u v : Value) : Array Value := #[.int .i64 s.seq, u, v, .int .i64 s.l1, .int .i64 s.l2, .int .i64 s.l3, .int .i64 s.l4, .int .i64 s.l5]
def BC (w : World) (b : Nat) (s : Bk) (u v : Value) : Prop := w.heap[b]? = some (.cells (bcells s u v) 27 (0, 0))
theorem BC.new (w : World) (s : Bk) (u v : Value) : BC (w.alloc (.cells (bcells s u v) 27)) w.heap.size s u v := heap_alloc_new w _
theorem BC.lt {w : World} {b : Nat} {s : Bk} {u v : Value} (h : BC w b s u v) : b < w.heap.size := (Array.getElem?_eq_some_iff.1 h).1
theorem BC.below {w w' : World} {b : Nat} {s : Bk} {u v : Value} (h : BC w b s u v) (hb : Below w.heap.size w w') : BC w' b s u v := (hb.block b h.lt).trans h
theorem BC.cells {w : World} {b : Nat} {s : Bk} {u v : Value} (h : BC w b s u v) :
  w.cell? ⟨b, 0, none⟩ = some (.int .i64 s.seq) ∧ w.cell? ⟨b, 1, none⟩ = some u ∧ w.cell? ⟨b, 2, none⟩ = some v ∧ w.cell? ⟨b, 3, none⟩ = some (.int .i64 s.l1) ∧ w.cell? ⟨b, 4, none⟩ = some (.int .i64 s.l2) ∧ w.cell? ⟨b, 5, none⟩ = some (.int .i64 s.l3) ∧ w.cell? ⟨b, 6, none⟩ = some (.int .i64 s.l4) ∧ w.cell? ⟨b, 7, none⟩ = some (.int .i64 s.l5) := by
 obtain ⟨_, _, _, _, c⟩ := block_facts h
 exact ⟨c 0 _ rfl, c 1 _ rfl, c 2 _ rfl, c 3 _ rfl, c 4 _ rfl, c 5 _ rfl, c 6 _ rfl, c 7 _ rfl⟩
theorem BC.free {w : World} {b : Nat} {s : Bk} {u v : Value} (h : BC w b s u v) (j : Nat) : w.frozen? ⟨b, j, none⟩ = false := (block_facts h).2.1 j
structure Bk.wf (s : Bk) : Prop where
 seq : -9223372036854775808 ≤ s.seq ∧ s.seq ≤ 9223372036854775807
 reqs : ∀ m ∈ s.ms, -9223372036854775808 ≤ m.req ∧ m.req ≤ 9223372036854775807
 l1 : -9223372036854775808 ≤ s.l1 ∧ s.l1 ≤ 9223372036854775807
 l2 : -9223372036854775808 ≤ s.l2 ∧ s.l2 ≤ 9223372036854775807
 l3 : -9223372036854775808 ≤ s.l3 ∧ s.l3 ≤ 9223372036854775807
 l4 : -9223372036854775808 ≤ s.l4 ∧ s.l4 ≤ 9223372036854775807
 l5 : -9223372036854775808 ≤ s.l5 ∧ s.l5 ≤ 9223372036854775807
structure BAt (w : World) (s : Bk) (u v : Value) : Prop where
 es : EsAt w u s.l
 ms : MsAt w v s.ms
 short : s.l.length ≤ 1000000
 shortM : s.ms.length ≤ 1000000
 shortV : ∀ e ∈ s.l, e.vs.length ≤ 1000000
theorem BAt.below {w w' : World} {s : Bk} {u v : Value} (h : BAt w s u v) (hb : Below w.heap.size w w') : BAt w' s u v := ⟨h.es.below hb, h.ms.below hb, h.short, h.shortM, h.shortV⟩
end Go.Proofs.YtlpgphiccjkenaaGreatDoor
namespace Go.Proofs.YtlpgphiccjkenaaGreatDoor
open Go.Shelf Go.RowKit
theorem tw_len {α : Type} {p : α → Bool} : ∀ {l : List α} {i : Nat}, (∀ t a, t < i → l[t]? = some a → p a = true) → (∀ a, l[i]? = some a → p a = false) → i ≤ l.length → (l.takeWhile p).length = i
 | [], 0, _, _, _ => rfl
 | [], _ + 1, _, _, h => by simp at h
 | a :: r, 0, _, h2, _ => by
  rw [List.takeWhile_cons, h2 a rfl]
  rfl
 | a :: r, i + 1, h1, h2, h => by
  rw [List.takeWhile_cons, h1 0 a (by omega) rfl]
  simp only [if_true, List.length_cons]
  rw [tw_len (l := r) (i := i) (fun t b ht hb => h1 (t + 1) b (by omega) (by simpa using hb)) (fun b hb => h2 b (by simpa using hb)) (by simpa using h)]
def SortE (l : List En) : Prop := ∀ (i j : Nat) (a b : En), i < j → l[i]? = some a → l[j]? = some b → klt a.key b.key = true
def foundK (l : List En) (key : ByteArray) : Bool := (atK l key).isSome
theorem place1_p (k key : ByteArray) (ad : Option Addr) (n c : Nat) (w : World) :
  Calls Tryz.prog 120 #[.agg #[.string k, .slice ad n c], .string key] w fun e w' => e = .returned (.int .i64 (Lib.compareBytes k.data.toList key.data.toList)) ∧ Below w.heap.size w w' := by
 go_enter Tryz.func120, Tryz.ntmps120
 have HC := Lib.hid (fun W => Tryz.strings_Compare k key W)
 go_wp2_with (go_at_call 95; refine (HC.out _).mono ?_; rintro _ _ ⟨rfl, rfl⟩)
 go_ret
 exact ⟨rfl, (Below.refl _ _).alloc (Nat.le_refl _) _⟩
theorem search_p (v : Value) (l : List En) (key : ByteArray) (w : World) (h : EsAt w v l) (hn : l.length ≤ 1000000) (hs : SortE l) :
  Calls Tryz.prog 119 #[v, .string key, .func (.func 120) #[] #[]] w fun e w' => e = .returned (.tuple #[.int .i64 (placeK l key), .bool (foundK l key)]) ∧ Below w.heap.size w w' := by
 have eg : ∀ args w, (callFunc 120 args).run Tryz.prog w = .ok (.enter 120 args) w := enters_of Tryz.func120 (by kernel_rfl) rfl
 have HP := Lib.hid (fun k ad n c W => place1_p k key ad n c W)
 obtain ⟨ad, cap, rfl, _⟩ := h.shape
 have HA := Lib.hid h
 have HS := Lib.hid hs
 obtain ⟨R1, hR1⟩ : ∃ R1, placeK l key = R1 := ⟨_, rfl⟩
 obtain ⟨R2, hR2⟩ : ∃ R2, foundK l key = R2 := ⟨_, rfl⟩
 rw [hR1, hR2]
 clear h hs
 go_enter Tryz.func119, Tryz.ntmps119
 go_wp2_with fail
 go_loopg [9, 10, 11] l.length (fun gg s9 s10 _ wr => ∃ i j : Nat, i ≤ j ∧ j ≤ l.length ∧ j - i ≤ gg ∧ s9 = .int .i64 i ∧ s10 = .int .i64 j ∧ Hid (Below w.heap.size w wr) ∧ Hid (∀ t a, t < i → l[t]? = some a → klt a.key key = true) ∧ Hid (∀ t a, j ≤ t → l[t]? = some a → klt a.key key = false))
 case atStart => exact ⟨0, l.length, by omega, by omega, by omega, rfl, rfl, Lib.hid (Below.refl _ _), Lib.hid (fun t a ht => absurd ht (Nat.not_lt_zero _)), Lib.hid (fun t a ht ha => absurd (List.getElem?_eq_some_iff.1 ha).1 (by omega))⟩
 case round =>
  obtain ⟨i, j, hij, hj, hg, rfl, rfl, BW, L1, L2⟩ := hrel
  by_cases hlt : i < j
  ·have hltz : (i : Int) < (j : Int) := by omega
   obtain ⟨m, hm⟩ : ∃ m : Nat, ((i : Int) + (j : Int)) / 2 = (m : Int) := ⟨((i : Int) + (j : Int)).toNat / 2, by omega⟩
   have him : i ≤ m := by omega
   have hmj : m < j := by omega
   have hmn : (m : Int) < (l.length : Int) := by omega
   obtain ⟨x, hx⟩ : ∃ x, l[m]? = some x := ⟨_, List.getElem?_eq_getElem (by omega)⟩
   obtain ⟨g, o, a, c, rfl, d0, d1, hgl, hV⟩ := (HA.out.below BW.out).get hx
   have HX := Lib.hid hx
   have hk := kcmp_neg x.key key
   have HPX := Lib.hid (HP.out x.key a x.vs.length c wr)
   clear hx hV hgl
   generalize Lib.compareBytes x.key.data.toList key.data.toList = C at *
   cases hlk : klt x.key key with
   | true =>
    have hc : C < 0 := hk.2 hlk
    have hcd : decide (C < 0) = true := decide_eq_true hc
    have HN : Hid (∀ t a, t < m + 1 → l[t]? = some a → klt a.key key = true) := Lib.hid (fun t a ht ha => by
     by_cases e : t = m
     ·subst e
      rw [HX.out] at ha
      cases ha
      exact hlk
     ·exact klt_trans (HS.out t m a x (by omega) ha HX.out) hlk)
    clear hk hlk
    go_wp2_with fail
    refine HPX.out.mono ?_
    rintro _ w1 ⟨rfl, hb1⟩
    have HB1 := Lib.hid (BW.out.trans (hb1.mono BW.out.size))
    clear hb1 d0 d1
    go_wp2_with fail
    go_roundg (j - (m + 1))
    case measure => omega
    case rel => exact ⟨m + 1, j, by omega, hj, by omega, by go_num, rfl, HB1, HN, L2⟩
   | false =>
    have hc : ¬ C < 0 := fun e => by rw [hk.1 e] at hlk; cases hlk
    have hcd : decide (C < 0) = false := decide_eq_false hc
    have HN : Hid (∀ t a, m ≤ t → l[t]? = some a → klt a.key key = false) := Lib.hid (fun t a ht ha => by
     by_cases e : t = m
     ·subst e
      rw [HX.out] at ha
      cases ha
      exact hlk
     ·cases hq : klt a.key key with
      | false => rfl
      | true => have := klt_trans (HS.out m t x a (by omega) HX.out ha) hq; rw [this] at hlk; cases hlk)
    clear hk hlk
    go_wp2_with fail
    refine HPX.out.mono ?_
    rintro _ w1 ⟨rfl, hb1⟩
    have HB1 := Lib.hid (BW.out.trans (hb1.mono BW.out.size))
    clear hb1 d0 d1
    go_wp2_with fail
    go_roundg (m - i)
    case measure => omega
    case rel => exact ⟨i, m, him, by omega, by omega, rfl, by go_num, HB1, L1, HN⟩
  ·have hltz : ¬ (i : Int) < (j : Int) := by omega
   obtain rfl : i = j := by omega
   have hpl : placeK l key = i := tw_len L1.out (fun a ha => L2.out i a (Nat.le_refl _) ha) hj
   obtain rfl : R1 = i := by rw [← hR1, hpl]
   by_cases hi : R1 < l.length
   ·have hiz : (R1 : Int) < (l.length : Int) := by omega
    obtain ⟨x, hx⟩ : ∃ x, l[R1]? = some x := ⟨_, List.getElem?_eq_getElem hi⟩
    obtain ⟨g, o, a, c, rfl, d0, d1, hgl, hV⟩ := (HA.out.below BW.out).get hx
    have hk := kcmp_zero x.key key
    have hf : foundK l key = decide (x.key = key) := by
     unfold foundK atK
     rw [hpl, hx]
     by_cases e : x.key = key <;> simp [e]
    have HPX := Lib.hid (HP.out x.key a x.vs.length c wr)
    rw [hR2] at hf
    clear hx hV hgl
    generalize Lib.compareBytes x.key.data.toList key.data.toList = C at *
    have hcd : (C == 0) = decide (x.key = key) := by
     by_cases e : x.key = key
     ·rw [decide_eq_true e]; simpa using hk.2 e
     ·rw [decide_eq_false e]; simpa using fun h => e (hk.1 h)
    rw [← hf] at hcd
    clear hk hf
    go_wp2_with fail
    refine HPX.out.mono ?_
    rintro _ w1 ⟨rfl, hb1⟩
    have HB1 := Lib.hid (BW.out.trans (hb1.mono BW.out.size))
    clear hb1 d0 d1
    go_wp2_with fail
    exact bodyPost_ret (v := .tuple #[.int .i64 (R1 : Int), .bool R2]) (by simp [results, Tryz.results119, go_sem]) rfl ⟨rfl, HB1.out⟩
   ·have hiz : ¬ (R1 : Int) < (l.length : Int) := by omega
    have hf : foundK l key = false := by
     unfold foundK atK
     rw [hpl, List.getElem?_eq_none (by omega)]
     rfl
    rw [hR2] at hf
    subst hf
    go_wp2_with fail
    exact bodyPost_ret (v := .tuple #[.int .i64 (R1 : Int), .bool false]) (by simp [results, Tryz.results119, go_sem]) rfl ⟨rfl, BW.out⟩
theorem bplace_p (v : Value) (l : List En) (key : ByteArray) (w : World) (h : EsAt w v l) (hn : l.length ≤ 1000000) (hs : SortE l) :
  Calls Tryz.prog 65 #[v, .string key] w fun e w' => e = .returned (.tuple #[.int .i64 (placeK l key), .bool (foundK l key)]) ∧ Below w.heap.size w w' := by
 have HS := Lib.hid (search_p v l key w h hn hs)
 obtain ⟨ad, cap, rfl, _⟩ := h.shape
 clear h hs
 go_enter Tryz.func65, Tryz.ntmps65
 go_wp2_with fail
 refine HS.out.mono ?_
 rintro _ w1 ⟨rfl, hb1⟩
 go_wp2_with fail
 exact bodyPost_ret (v := .tuple #[.int .i64 (placeK l key), .bool (foundK l key)]) (by simp [results, Tryz.results65, go_sem]) rfl ⟨rfl, hb1⟩
def SortM (l : List Me) : Prop := ∀ (i j : Nat) (a b : Me), i < j → l[i]? = some a → l[j]? = some b → a.req < b.req
def foundM (l : List Me) (r : Int) : Bool := match l[placeM l r]? with | none => false | some m => decide (m.req = r)
def icmp (a b : Int) : Int := if a < b then -1 else if b < a then 1 else 0
theorem icmp_neg (a b : Int) : icmp a b < 0 ↔ a < b := by
 unfold icmp
 split
 ·simp [*]
 ·split <;> simp [*]
theorem icmp_zero (a b : Int) : icmp a b = 0 ↔ a = b := by
 unfold icmp
 split
 ·constructor
  ·intro h; cases h
  ·intro h; omega
 ·split
  ·constructor
   ·intro h; cases h
   ·intro h; omega
  ·constructor
   ·intro _; omega
   ·intro _; rfl
theorem isNaN_p (a : Int) (w : World) : Calls Tryz.prog 126 #[.int .i64 a] w fun e w' => e = .returned (.bool false) ∧ w' = w := by
 go_enter Tryz.func126, Tryz.ntmps126
 go_wp2_with fail
 go_ret
 exact ⟨by simp, rfl⟩
theorem cmp_p (a b : Int) (w : World) : Calls Tryz.prog 71 #[.int .i64 a, .int .i64 b] w fun e w' => e = .returned (.int .i64 (icmp a b)) ∧ w' = w := by
 have HN := Lib.hid (fun x W => isNaN_p x W)
 obtain ⟨R, hR⟩ : ∃ R, icmp a b = R := ⟨_, rfl⟩
 rw [hR]
 unfold icmp at hR
 go_enter Tryz.func71, Tryz.ntmps71
 by_cases h : a < b
 ·rw [if_pos h] at hR
  subst hR
  go_wp2_with (go_at_call 126; refine (HN.out _ _).mono ?_; rintro _ _ ⟨rfl, rfl⟩)
  go_ret
  exact ⟨rfl, rfl⟩
 ·rw [if_neg h] at hR
  by_cases h2 : b < a
  ·rw [if_pos h2] at hR
   subst hR
   go_wp2_with (go_at_call 126; refine (HN.out _ _).mono ?_; rintro _ _ ⟨rfl, rfl⟩)
   go_ret
   exact ⟨rfl, rfl⟩
  ·rw [if_neg h2] at hR
   subst hR
   go_wp2_with (go_at_call 126; refine (HN.out _ _).mono ?_; rintro _ _ ⟨rfl, rfl⟩)
   go_ret
   exact ⟨rfl, rfl⟩
theorem keep1_p (m : Me) (r : Int) (w : World) :
  Calls Tryz.prog 70 #[.agg #[.int .i64 m.req, .int .i64 m.res.err, .int .i64 m.res.ver], .int .i64 r] w fun e w' => e = .returned (.int .i64 (icmp m.req r)) ∧ Below w.heap.size w w' := by
 have HC := Lib.hid (fun W => cmp_p m.req r W)
 generalize icmp m.req r = C at *
 go_enter Tryz.func70, Tryz.ntmps70
 go_wp2_with (go_at_call 71; refine (HC.out _).mono ?_; rintro _ _ ⟨rfl, rfl⟩)
 go_ret
 exact ⟨rfl, (Below.refl _ _).alloc (Nat.le_refl _) _⟩
theorem msearch_p (v : Value) (l : List Me) (key : Int) (w : World) (h : MsAt w v l) (hn : l.length ≤ 1000000) (hs : SortM l) :
  Calls Tryz.prog 69 #[v, .int .i64 key, .func (.func 70) #[] #[]] w fun e w' => e = .returned (.tuple #[.int .i64 (placeM l key), .bool (foundM l key)]) ∧ Below w.heap.size w w' := by
 have eg : ∀ args w, (callFunc 70 args).run Tryz.prog w = .ok (.enter 70 args) w := enters_of Tryz.func70 (by kernel_rfl) rfl
 have HP := Lib.hid (fun m W => keep1_p m key W)
 obtain ⟨ad, cap, rfl, _⟩ := h.shape
 have HA := Lib.hid h
 have HS := Lib.hid hs
 obtain ⟨R1, hR1⟩ : ∃ R1, placeM l key = R1 := ⟨_, rfl⟩
 obtain ⟨R2, hR2⟩ : ∃ R2, foundM l key = R2 := ⟨_, rfl⟩
 rw [hR1, hR2]
 clear h hs
 go_enter Tryz.func69, Tryz.ntmps69
 go_wp2_with fail
 go_loopg [9, 10, 11] l.length (fun gg s9 s10 _ wr => ∃ i j : Nat, i ≤ j ∧ j ≤ l.length ∧ j - i ≤ gg ∧ s9 = .int .i64 i ∧ s10 = .int .i64 j ∧ Hid (Below w.heap.size w wr) ∧ Hid (∀ t a, t < i → l[t]? = some a → a.req < key) ∧ Hid (∀ t a, j ≤ t → l[t]? = some a → ¬ a.req < key))
 case atStart => exact ⟨0, l.length, by omega, by omega, by omega, rfl, rfl, Lib.hid (Below.refl _ _), Lib.hid (fun t a ht => absurd ht (Nat.not_lt_zero _)), Lib.hid (fun t a ht ha => absurd (List.getElem?_eq_some_iff.1 ha).1 (by omega))⟩
 case round =>
  obtain ⟨i, j, hij, hj, hg, rfl, rfl, BW, L1, L2⟩ := hrel
  by_cases hlt : i < j
  ·have hltz : (i : Int) < (j : Int) := by omega
   obtain ⟨m, hm⟩ : ∃ m : Nat, ((i : Int) + (j : Int)) / 2 = (m : Int) := ⟨((i : Int) + (j : Int)).toNat / 2, by omega⟩
   have him : i ≤ m := by omega
   have hmj : m < j := by omega
   have hmn : (m : Int) < (l.length : Int) := by omega
   obtain ⟨x, hx⟩ : ∃ x, l[m]? = some x := ⟨_, List.getElem?_eq_getElem (by omega)⟩
   obtain ⟨g, o, rfl, d0, d1, d2, hgl⟩ := (HA.out.below BW.out).get hx
   have HX := Lib.hid hx
   have hk := icmp_neg x.req key
   have HPX := Lib.hid (HP.out x wr)
   clear hx hgl
   generalize icmp x.req key = C at *
   by_cases hlk : x.req < key
   case pos =>
    have hc : C < 0 := hk.2 hlk
    have hcd : decide (C < 0) = true := decide_eq_true hc
    have HN : Hid (∀ t a, t < m + 1 → l[t]? = some a → a.req < key) := Lib.hid (fun t a ht ha => by
     by_cases e : t = m
     ·subst e
      rw [HX.out] at ha
      cases ha
      exact hlk
     ·have := HS.out t m a x (by omega) ha HX.out; omega)
    clear hk hlk
    go_wp2_with fail
    refine HPX.out.mono ?_
    rintro _ w1 ⟨rfl, hb1⟩
    have HB1 := Lib.hid (BW.out.trans (hb1.mono BW.out.size))
    clear hb1 d0 d1 d2
    go_wp2_with fail
    go_roundg (j - (m + 1))
    case measure => omega
    case rel => exact ⟨m + 1, j, by omega, hj, by omega, by go_num, rfl, HB1, HN, L2⟩
   case neg =>
    have hc : ¬ C < 0 := fun e => hlk (hk.1 e)
    have hcd : decide (C < 0) = false := decide_eq_false hc
    have HN : Hid (∀ t a, m ≤ t → l[t]? = some a → ¬ a.req < key) := Lib.hid (fun t a ht ha => by
     by_cases e : t = m
     ·subst e
      rw [HX.out] at ha
      cases ha
      exact hlk
     ·have := HS.out m t x a (by omega) HX.out ha; omega)
    clear hk hlk
    go_wp2_with fail
    refine HPX.out.mono ?_
    rintro _ w1 ⟨rfl, hb1⟩
    have HB1 := Lib.hid (BW.out.trans (hb1.mono BW.out.size))
    clear hb1 d0 d1 d2
    go_wp2_with fail
    go_roundg (m - i)
    case measure => omega
    case rel => exact ⟨i, m, him, by omega, by omega, rfl, by go_num, HB1, L1, HN⟩
  ·have hltz : ¬ (i : Int) < (j : Int) := by omega
   obtain rfl : i = j := by omega
   have hpl : placeM l key = i := tw_len (fun t a ht ha => decide_eq_true (L1.out t a ht ha)) (fun a ha => decide_eq_false (L2.out i a (Nat.le_refl _) ha)) hj
   obtain rfl : R1 = i := by rw [← hR1, hpl]
   by_cases hi : R1 < l.length
   ·have hiz : (R1 : Int) < (l.length : Int) := by omega
    obtain ⟨x, hx⟩ : ∃ x, l[R1]? = some x := ⟨_, List.getElem?_eq_getElem hi⟩
    obtain ⟨g, o, rfl, d0, d1, d2, hgl⟩ := (HA.out.below BW.out).get hx
    have hk := icmp_zero x.req key
    have hf : foundM l key = decide (x.req = key) := by
     unfold foundM
     rw [hpl, hx]
    have HPX := Lib.hid (HP.out x wr)
    rw [hR2] at hf
    clear hx hgl
    generalize icmp x.req key = C at *
    have hcd : (C == 0) = decide (x.req = key) := by
     by_cases e : x.req = key
     ·rw [decide_eq_true e]; simpa using hk.2 e
     ·rw [decide_eq_false e]; simpa using fun h => e (hk.1 h)
    rw [← hf] at hcd
    clear hk hf
    go_wp2_with fail
    refine HPX.out.mono ?_
    rintro _ w1 ⟨rfl, hb1⟩
    have HB1 := Lib.hid (BW.out.trans (hb1.mono BW.out.size))
    clear hb1 d0 d1 d2
    go_wp2_with fail
    exact bodyPost_ret (v := .tuple #[.int .i64 (R1 : Int), .bool R2]) (by simp [results, Tryz.results69, go_sem]) rfl ⟨rfl, HB1.out⟩
   ·have hiz : ¬ (R1 : Int) < (l.length : Int) := by omega
    have hf : foundM l key = false := by
     unfold foundM
     rw [hpl, List.getElem?_eq_none (by omega)]
    rw [hR2] at hf
    subst hf
    go_wp2_with fail
    exact bodyPost_ret (v := .tuple #[.int .i64 (R1 : Int), .bool false]) (by simp [results, Tryz.results69, go_sem]) rfl ⟨rfl, BW.out⟩
end Go.Proofs.YtlpgphiccjkenaaGreatDoor
namespace Go.Proofs.YtlpgphiccjkenaaGreatDoor
open Go.RowKit
theorem RepG.any {w : World} {A : Nat → Prop} {ad : Option Addr} {l : F} (h : RepG w A ad l) : RepG w (fun _ => True) ad l := h.to (fun _ _ _ => ⟨trivial, rfl⟩)
theorem dput_p (d : De) (b : Bool) (hb : b = true ↔ mayD d) (hwf : d.wf) (w : World) (ht : TzAt w) (he : ErrAt w) (hp : PowAt w) :
  Calls Tryz.prog 17 #[dagg d] w fun e w' => e = .returned (.string (if b then putV 3 0 ⟨#[]⟩ d.parts else ⟨#[]⟩)) ∧ Below w.heap.size w w' := by
 have HP := Lib.hid (fun (ad : Option Addr) cap W (h1 : PowAt W) h2 => Put_p 3 0 ⟨#[]⟩ d.parts ad cap W h1 (by omega) (De.parts_wf hwf) h2)
 have HZ := Lib.hid (fun W (h1 : PowAt W) => Put_p 0 0 ⟨#[]⟩ .nil none 0 W h1 (by omega) trivial (.inl rfl))
 have hz : putS 0 0 ⟨#[]⟩ .nil = ⟨#[]⟩ := by
  unfold putS
  rw [if_neg (by simp [vmay, vmayB, pureB])]
 have hv : putS 3 0 ⟨#[]⟩ d.parts = putV 3 0 ⟨#[]⟩ d.parts := by
  unfold putS
  rw [if_pos (De.vmay d)]
 rw [hv] at HP
 rw [hz] at HZ
 have hl : d.parts.len = 8 := rfl
 rw [hl] at HP
 simp only [F.len] at HZ
 clear hl hz hv
 have hb0 : Below w.heap.size w (w.alloc (.cells #[.int .i64 d.kind, .string d.key, .string d.body, .int .i64 d.ver, .int .i64 d.cond, .string d.tag, .int .i64 d.req, .int .i64 d.low] 35)) := (Below.refl _ _).alloc (Nat.le_refl _) _
 have HC := Lib.hid (DeC.new w d 35)
 have HB := Lib.hid hb0
 have HV := Lib.hid (fun W h1 h2 => dval_p d b hb hwf W h1 h2)
 have HTE := Lib.hid (And.intro ht (And.intro he hp))
 clear hb hwf ht he hp hb0
 unfold dagg at HV ⊢
 generalize d.parts = f at *
 generalize putV 3 0 ⟨#[]⟩ f = T at *
 obtain ⟨q0, q1, q2, q3, q4, q5, q6, q7⟩ := HC.out
 go_enter Tryz.func17, Tryz.ntmps17
 go_wp2_with fail
 refine (HV.out _ (HTE.out.1.below HB.out) (HTE.out.2.1.below HB.out)).mono ?_
 rintro _ w1 ⟨hb1, hh⟩
 have HB1 := Lib.hid (HB.out.trans (hb1.mono HB.out.size))
 clear hb1 q0 q1 q2 q3 q4 q5 q6 q7
 rcases hh with ⟨rfl, rfl⟩ | ⟨rfl, ad, cap, rfl, hg⟩
 ·go_wp2_with fail
  refine (HZ.out _ (HTE.out.2.2.below HB1.out)).mono ?_
  rintro _ w2 ⟨rfl, hb2⟩
  have HB2 := Lib.hid (HB1.out.trans (hb2.mono HB1.out.size))
  clear hb2
  go_wp2_with fail
  go_ret
  exact ⟨rfl, HB2.out⟩
 ·have HX := Lib.hid (HP.out ad cap w1 (HTE.out.2.2.below HB1.out) hg.repS)
  clear hg
  go_wp2_with fail
  refine HX.out.mono ?_
  rintro _ w2 ⟨rfl, hb2⟩
  have HB2 := Lib.hid (HB1.out.trans (hb2.mono HB1.out.size))
  clear hb2
  go_wp2_with fail
  go_ret
  exact ⟨rfl, HB2.out⟩
end Go.Proofs.YtlpgphiccjkenaaGreatDoor
