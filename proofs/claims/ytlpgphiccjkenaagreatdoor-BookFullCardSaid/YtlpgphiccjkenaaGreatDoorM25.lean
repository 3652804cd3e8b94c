/-
 Contracts of the program, and what they rest on.
-/
import Derived.Test.YtlpgphiccjkenaaGreatDoorTk
import Derived.Test.YtlpgphiccjkenaaGreatDoorM22
import Derived.Test.YtlpgphiccjkenaaGreatDoorM08
import Derived.Lib.SmallJoins
import Derived.Deep.AppendLies
set_option maxRecDepth 100000
set_option maxHeartbeats 16000000
namespace Go.Proofs.YtlpgphiccjkenaaGreatDoor
open Go.RowKit
def total2 : List (F × F) → Nat
 | [] => 0
 | e :: r => e.1.cnt + total2 r
theorem total2_app : ∀ a b : List (F × F), total2 (a ++ b) = total2 a + total2 b
 | [], b => by simp [total2]
 | f :: r, b => by simp only [List.cons_append, total2, total2_app r b]; omega
def RepP2 (w : World) (A : Nat → Prop) : List Value → List (F × F) → Prop
 | xs, [] => xs = []
 | xs, e :: r => ∃ (b o c b' o' c' : Nat) (ys : List Value), xs = .slice (some ⟨b, o, none⟩) e.1.len c :: .slice (some ⟨b', o', none⟩) e.1.len c' :: ys ∧ RepA w A b o e.1 ∧ RepA w A b' o' e.2 ∧ (1 ≤ e.1.len ∧ e.2.len = e.1.len) ∧ RepP2 w A ys r
theorem RepP2.len {w : World} {A : Nat → Prop} : ∀ (L : List (F × F)) (xs : List Value), RepP2 w A xs L → xs.length = L.length * 2
 | [], xs, h => by
  obtain rfl : xs = [] := h
  rfl
 | f :: r, xs, h => by
  obtain ⟨_, _, _, _, _, _, ys, rfl, _, _, _, h⟩ := h
  have := RepP2.len r ys h
  simp only [List.length_cons]
  omega
theorem RepP2.snoc {w : World} {A : Nat → Prop} {f g : F} {b o c b' o' c' : Nat} (h1 : RepA w A b o f) (h2 : RepA w A b' o' g) (h3 : 1 ≤ f.len ∧ g.len = f.len) : ∀ (L : List (F × F)) (xs : List Value), RepP2 w A xs L →
  RepP2 w A (xs ++ [.slice (some ⟨b, o, none⟩) f.len c, .slice (some ⟨b', o', none⟩) f.len c']) (L ++ [(f, g)])
 | [], xs, h => by
  obtain rfl : xs = [] := h
  exact ⟨b, o, c, b', o', c', [], rfl, h1, h2, h3, rfl⟩
 | e :: r, xs, h => by
  obtain ⟨x1, x2, x3, x4, x5, x6, ys, rfl, g1, g2, g3, h⟩ := h
  exact ⟨x1, x2, x3, x4, x5, x6, _, rfl, g1, g2, g3, RepP2.snoc h1 h2 h3 r ys h⟩
theorem RepP2.pop {w : World} {A : Nat → Prop} {f g : F} : ∀ (L : List (F × F)) (xs : List Value), RepP2 w A xs (L ++ [(f, g)]) →
  ∃ (b o c b' o' c' : Nat) (ys : List Value), xs = ys ++ [.slice (some ⟨b, o, none⟩) f.len c, .slice (some ⟨b', o', none⟩) f.len c'] ∧ RepA w A b o f ∧ RepA w A b' o' g ∧ (1 ≤ f.len ∧ g.len = f.len) ∧ RepP2 w A ys L
 | [], xs, h => by
  obtain ⟨b, o, c, b', o', c', ys, rfl, h1, h2, h3, h4⟩ := h
  obtain rfl : ys = [] := h4
  exact ⟨b, o, c, b', o', c', [], rfl, h1, h2, h3, rfl⟩
 | e :: r, xs, h => by
  obtain ⟨x1, x2, x3, x4, x5, x6, ys, rfl, g1, g2, g3, h⟩ := h
  obtain ⟨b, o, c, b', o', c', zs, rfl, h1, h2, h3, h4⟩ := RepP2.pop r ys h
  exact ⟨b, o, c, b', o', c', _, rfl, h1, h2, h3, x1, x2, x3, x4, x5, x6, zs, rfl, g1, g2, g3, h4⟩
theorem RepP2.total_le {w : World} {A : Nat → Prop} : ∀ (L : List (F × F)) (xs : List Value), RepP2 w A xs L → L.length ≤ total2 L
 | [], _, _ => Nat.le_refl _
 | f :: r, xs, h => by
  obtain ⟨_, _, _, _, _, _, ys, _, _, _, h1, h⟩ := h
  have := RepP2.total_le r ys h
  have := F.len_le_cnt f.1
  simp only [List.length_cons, total2]
  omega
def Den (w : World) (A : Nat → Prop) (p : Pl) (f : F) : Prop := ∃ b o, p = ((⟨b, o, none⟩ : Addr), (f.len : Int)) ∧ RepA w A b o f
theorem Den.same {w : World} {A : Nat → Prop} (p : Pl) (f g : F) (h : Den w A p f) (h' : Den w A p g) : f = g := by
 obtain ⟨b, o, rfl, h⟩ := h
 obtain ⟨b', o', e, h'⟩ := h'
 simp only [Prod.mk.injEq, Addr.mk.injEq, and_true] at e
 obtain ⟨⟨rfl, rfl⟩, e⟩ := e
 exact RepA.same f g _ _ h h' (by omega)
def EqLog (w : World) (A : Nat → Prop) (F0 G0 : F) (cl : Pl → Pl) (pend : List (F × F)) : Prop :=
 Snd (Den w A) F0 G0 cl pend ∧ (F0 = G0 → ∀ e ∈ pend, e.1 = e.2)
theorem eqK_len {K : F → F → Prop} : ∀ f g, eqK K f g → f.len = g.len
 | .nil, .nil, _ => rfl
 | .cons _ _ _ _ r, .cons _ _ _ _ r', h => by simp only [F.len, eqK_len r r' h.2.2]
 | .nil, .cons .., h => h.elim
 | .cons .., .nil, h => h.elim
theorem app_inj : ∀ (f g a b : F), f.app a = g.app b → f.len = g.len → a = b
 | .nil, .nil, _, _, h, _ => h
 | .cons _ _ _ _ r, .cons _ _ _ _ r', a, b, h, hl => by
  simp only [F.app, F.cons.injEq] at h
  exact app_inj r r' a b h.2.2.2.2 (by simp only [F.len] at hl; omega)
 | .nil, .cons .., _, _, _, h => by simp [F.len] at h
 | .cons .., .nil, _, _, _, h => by simp [F.len] at h
theorem snoc_of {α : Type} (L : List α) (h : L ≠ []) : ∃ (M : List α) (a : α), L = M ++ [a] :=
 ⟨L.dropLast, L.getLast h, (List.dropLast_concat_getLast h).symm⟩
structure Sav2 (m q : Nat) (w w' : World) : Prop where
 os : w'.os = w.os
 tape : w'.tape = w.tape
 output : w'.output = w.output
 size : w.heap.size ≤ w'.heap.size
 block : ∀ j, j < w.heap.size → j ≠ m → j ≠ q → w'.heap[j]? = w.heap[j]?
def EqI2 (w one : World) (cl : Pl → Pl) (E : List (Pl × Pl)) (L : List (F × F)) (va : Option Addr) (vc : Nat) (xs : List Value) (wr : World) : Prop :=
 wr.ownsRow (w.heap.size + 5) 184 2 (.slice va L.length vc) L.length xs ∧ RepP2 one (fun j => j < w.heap.size + 5) xs L ∧ MapIs wr (w.heap.size + 2) E ∧
  ClsC (fun p => GoodP one p ∧ p.1.block < w.heap.size + 5) cl E ∧ Sav2 (w.heap.size + 2) (w.heap.size + 5) one wr
theorem Sav2.below {m q : Nat} {a b c : World} (h : Sav2 m q a b) (h' : Below a.heap.size b c) : Sav2 m q a c :=
 ⟨h'.os.trans h.os, h'.tape.trans h.tape, h'.output.trans h.output, Nat.le_trans h.size h'.size, fun j hj h1 h2 => (h'.block j hj).trans (h.block j hj h1 h2)⟩
theorem EqI2.below {w one : World} {cl : Pl → Pl} {E : List (Pl × Pl)} {L : List (F × F)} {va : Option Addr} {vc : Nat} {xs : List Value} {wr wr' : World} (h : EqI2 w one cl E L va vc xs wr) (hb : Below wr.heap.size wr wr') : EqI2 w one cl E L va vc xs wr' :=
 ⟨owns_below h.1 hb, h.2.1, h.2.2.1.of_block (hb.block _ h.2.2.1.lt), h.2.2.2.1, h.2.2.2.2.below (hb.mono h.2.2.2.2.size)⟩
def EqOut2 (w one : World) (F0 G0 : F) (N k : Nat) (lv : Value) (wr : World) : Prop :=
 ∃ (cl : Pl → Pl) (E : List (Pl × Pl)) (L : List (F × F)) (va : Option Addr) (vc : Nat) (xs : List Value), lv = .slice va L.length vc ∧ k = total2 L ∧ total2 L ≤ N ∧ L.length ≤ total2 L ∧ Hid (EqI2 w one cl E L va vc xs wr) ∧ Hid (EqLog one (fun j => j < w.heap.size + 5) F0 G0 cl L)
def EqIn2 (w one : World) (F0 G0 : F) (M : Nat) (f g : F) (P b o c b' o' c' : Nat) (k : Nat) (lv iv : Value) (wr : World) : Prop :=
 ∃ (cl : Pl → Pl) (E : List (Pl × Pl)) (L : List (F × F)) (va : Option Addr) (vc : Nat) (xs : List Value) (i : Nat) (df dg gf gg : F), lv = .slice va L.length vc ∧ iv = .int .i64 i ∧ k = gf.len ∧ i + gf.len = f.len ∧ gg.len = gf.len ∧ L.length ≤ total2 L ∧ total2 L + gf.cnt + i ≤ M ∧ Hid (EqI2 w one cl E L va vc xs wr) ∧
  Hid (RepA one (fun j => j < w.heap.size + 5) b (o + i * 4) gf ∧ RepA one (fun j => j < w.heap.size + 5) b' (o' + i * 4) gg ∧ (Value.slice va L.length vc).ownBlock ≠ some P ∧ P < wr.heap.size ∧ one.heap.size ≤ P) ∧
  Hid (EqLog one (fun j => j < w.heap.size + 5) F0 G0 cl (L ++ [(f, g)]) ∧ Pre (Den one (fun j => j < w.heap.size + 5)) cl df dg ∧ f = df.app gf ∧ g = dg.app gg) ∧
  wr.cell? ⟨P, 0, none⟩ = some (.slice (some ⟨b, o, none⟩) f.len c) ∧ wr.cell? ⟨P, 1, none⟩ = some (.slice (some ⟨b', o', none⟩) f.len c')
def CelO (w : World) (b o : Nat) (k n : Int) (s : ByteArray) (ad : Option Addr) (len cap : Nat) : Prop :=
 w.cell? ⟨b, o, none⟩ = some (.int .i64 k) ∧ w.cell? ⟨b, o + 1, none⟩ = some (.int .i64 n) ∧ w.cell? ⟨b, o + 2, none⟩ = some (.string s) ∧ w.cell? ⟨b, o + 3, none⟩ = some (.slice ad len cap)
theorem CelO.to {w w' : World} {b o : Nat} {k n : Int} {s : ByteArray} {ad : Option Addr} {len cap : Nat} (h : CelO w b o k n s ad len cap) (e : w'.heap[b]? = w.heap[b]?) : CelO w' b o k n s ad len cap := by
 obtain ⟨h0, h1, h2, h3⟩ := h
 exact ⟨by rw [cell_congr e]; exact h0, by rw [cell_congr e]; exact h1, by rw [cell_congr e]; exact h2, by rw [cell_congr e]; exact h3⟩
theorem CelO.lt {w : World} {b o : Nat} {k n : Int} {s : ByteArray} {ad : Option Addr} {len cap : Nat} (h : CelO w b o k n s ad len cap) : b < w.heap.size := World.block_lt_of_cell? w _ h.1
def EqF2 (w one : World) (cl : Pl → Pl) (E : List (Pl × Pl)) (L : List (F × F)) (va : Option Addr) (vc : Nat) (xs : List Value) (P b o n c b' o' c' i : Nat) (k1 n1 : Int) (s1 : ByteArray) (k2 n2 : Int) (s2 : ByteArray) (a1 a2 : Option Addr) (c1 c2 m1 m2 : Nat) (W : World) : Prop :=
 EqI2 w one cl E L va vc xs W ∧ (W.cell? ⟨P, 0, none⟩ = some (.slice (some ⟨b, o, none⟩) n c) ∧ W.cell? ⟨P, 1, none⟩ = some (.slice (some ⟨b', o', none⟩) n c')) ∧
  CelO W b (o + i * 4) k1 n1 s1 a1 m1 c1 ∧ CelO W b' (o' + i * 4) k2 n2 s2 a2 m2 c2
section
variable {w one : World} {cl : Pl → Pl} {E : List (Pl × Pl)} {L : List (F × F)} {va : Option Addr} {vc : Nat} {xs : List Value} {P b o n c b' o' c' i : Nat} {k1 n1 : Int} {s1 : ByteArray} {k2 n2 : Int} {s2 : ByteArray} {a1 a2 : Option Addr} {c1 c2 m1 m2 : Nat}
theorem EqF2.below {W W' : World}
  (h : EqF2 w one cl E L va vc xs P b o n c b' o' c' i k1 n1 s1 k2 n2 s2 a1 a2 c1 c2 m1 m2 W) (hb : Below W.heap.size W W') : EqF2 w one cl E L va vc xs P b o n c b' o' c' i k1 n1 s1 k2 n2 s2 a1 a2 c1 c2 m1 m2 W' :=
 ⟨h.1.below hb, ⟨cell_kept hb (Nat.le_refl _) h.2.1.1, cell_kept hb (Nat.le_refl _) h.2.1.2⟩, h.2.2.1.to (hb.block _ h.2.2.1.lt), h.2.2.2.to (hb.block _ h.2.2.2.lt)⟩
theorem EqI2.open_at {wr : World} (h : EqI2 w one cl E L va vc xs wr) (hone : MapIs one (w.heap.size + 2) []) {b off : Nat} {k n : Int} {s : ByteArray} {l r : F}
  (ht : RepA one (fun j => j < w.heap.size + 5) b off (.cons k n s l r)) :
  ∃ ad cap, CelO wr b off k n s ad l.len cap ∧ (l = .nil ∨ ∃ b' o', ad = some ⟨b', o', none⟩ ∧ RepA one (fun j => j < w.heap.size + 5) b' o' l) ∧ RepA one (fun j => j < w.heap.size + 5) b (off + 4) r := by
 obtain ⟨⟨hb, cur, t, hh⟩, h0, h1, h2, ⟨ad, cap, h3, h4⟩, h5⟩ := ht
 have hb' : b < w.heap.size + 5 := hb
 have hl : b < one.heap.size := lt_of_heap hh
 have hne : b ≠ w.heap.size + 2 := GoodP.ne (p := (⟨b, 0, none⟩, 0)) ⟨cur, t, hh⟩ hone
 refine ⟨ad, cap, CelO.to ⟨h0, h1, h2, h3⟩ (h.2.2.2.2.block b hl hne (by omega)), h4, h5⟩
theorem owns_congr {w w' : World} {B : Nat} {e : TypeId} {z n : Nat} {v : Value} {xs : List Value} (h : w.ownsRow B e z v n xs) (hk : ∀ j, v.ownBlock = some j → w'.heap[j]? = w.heap[j]?) : w'.ownsRow B e z v n xs := by
 refine ⟨h.1, ?_⟩
 rcases h.2 with h2 | ⟨g, cap, cur, rfl, h3, h4, h5⟩
 ·exact .inl h2
 ·exact .inr ⟨g, cap, cur, rfl, h3, (hk g rfl).trans h4, h5⟩
theorem ne_of_cell {w : World} {b o m : Nat} {v : Value} {E : List (Pl × Pl)} (h : w.cell? ⟨b, o, none⟩ = some v) (hm : MapIs w m E) : b ≠ m := by
 intro e
 obtain ⟨es, cl, hm, _⟩ := hm
 unfold World.cell? at h
 simp only [e, hm] at h
 cases h
theorem EqF2.join {cl' : Pl → Pl} {E' : List (Pl × Pl)} {W W' : World}
  (h : EqF2 w one cl E L va vc xs P b o n c b' o' c' i k1 n1 s1 k2 n2 s2 a1 a2 c1 c2 m1 m2 W) (hm : MapIs W' (w.heap.size + 2) E') (hs : SavM (w.heap.size + 2) W W') (hc : ClsC (fun p => GoodP one p ∧ p.1.block < w.heap.size + 5) cl' E') : EqF2 w one cl' E' L va vc xs P b o n c b' o' c' i k1 n1 s1 k2 n2 s2 a1 a2 c1 c2 m1 m2 W' := by
 obtain ⟨⟨i1, i2, i3, i4, i5⟩, ⟨p0, p1⟩, x, y⟩ := h
 refine ⟨⟨owns_congr i1 (fun j hj => hs.block j (owns_old i1 j hj) (by have := owns_base i1 j hj; omega)), i2, hm, hc, ⟨hs.os.trans i5.os, hs.tape.trans i5.tape, hs.output.trans i5.output, Nat.le_trans i5.size hs.size, fun j hj h1 h2 => ?_⟩⟩, ⟨hs.cell p0 (ne_of_cell p0 i3), hs.cell p1 (ne_of_cell p1 i3)⟩, x.to (hs.block _ x.lt (ne_of_cell x.1 i3)), y.to (hs.block _ y.lt (ne_of_cell y.1 i3))⟩
 rw [hs.block j (Nat.lt_of_lt_of_le hj i5.size) h1]
 exact i5.block j hj h1 h2
theorem EqF2.more {bx ox by' oy : Nat} {f g : F} {W W1 W' : World} {va' : Option Addr} {vc' : Nat}
  (h : EqF2 w one cl E L va vc xs P b o n c b' o' c' i k1 n1 s1 k2 n2 s2 (some ⟨bx, ox, none⟩) (some ⟨by', oy, none⟩) c1 c2 f.len f.len W) (hb : Below W.heap.size W W1) (hP : (Value.slice va L.length vc).ownBlock ≠ some P) (hPl : P < W.heap.size)
  (h1 : RepA one (fun j => j < w.heap.size + 5) bx ox f) (h2 : RepA one (fun j => j < w.heap.size + 5) by' oy g) (h3 : 1 ≤ f.len ∧ g.len = f.len) (hone : one.heap.size = w.heap.size + 6)
  (g1 : W'.ownsRow (w.heap.size + 5) 184 2 (.slice va' (L.length + 1) vc') (L.length + 1) (xs ++ [.slice (some ⟨bx, ox, none⟩) f.len c1, .slice (some ⟨by', oy, none⟩) f.len c2]))
  (g2 : W1.grownBy W' (Value.slice va L.length vc).ownBlock) (g3 : (Value.slice va' (L.length + 1) vc').ownBlock = (Value.slice va L.length vc).ownBlock ∨ (Value.slice va' (L.length + 1) vc').ownBlock = some W1.heap.size) :
  EqI2 w one cl E (L ++ [(f, g)]) va' vc' (xs ++ [.slice (some ⟨bx, ox, none⟩) f.len c1, .slice (some ⟨by', oy, none⟩) f.len c2]) W' ∧ (Value.slice va' (L.length + 1) vc').ownBlock ≠ some P ∧ P < W'.heap.size ∧
   (W'.cell? ⟨P, 0, none⟩ = some (.slice (some ⟨b, o, none⟩) n c) ∧ W'.cell? ⟨P, 1, none⟩ = some (.slice (some ⟨b', o', none⟩) n c')) := by
 have hh := h.below hb
 obtain ⟨⟨i1, i2, i3, i4, i5⟩, ⟨p0, p1⟩, x, y⟩ := hh
 have kp : ∀ j, j < W1.heap.size → (Value.slice va L.length vc).ownBlock ≠ some j → W'.heap[j]? = W1.heap[j]? := fun j hj hn => g2.block j hj (fun e => hn (by first | exact e | exact e.symm))
 have hs := hb.size
 have hPk := kp P (by omega) hP
 refine ⟨⟨by rw [List.length_append]; exact g1, RepP2.snoc h1 h2 h3 L xs i2, i3.of_block (kp _ i3.lt (fun e => by have := owns_base i1 _ e; omega)), i4, ⟨g2.os.trans i5.os, g2.tape.trans i5.tape, g2.output.trans i5.output, Nat.le_trans i5.size g2.size, fun j hj e1 e2 => ?_⟩⟩, ?_, by have := g2.size; omega, ⟨by rw [cell_congr hPk]; exact p0, by rw [cell_congr hPk]; exact p1⟩⟩
 ·rw [kp j (Nat.lt_of_lt_of_le hj i5.size) (fun e => by have := owns_base i1 _ e; omega)]
  exact i5.block j hj e1 e2
 ·rcases g3 with h | h
  ·rw [h]; exact hP
  ·rw [h]
   intro e
   have := Option.some.inj e
   omega
end
theorem six_allocs (w : World) (a b c d e f : Obj) : (∀ j, j < w.heap.size → ((((((w.alloc a).alloc b).alloc c).alloc d).alloc e).alloc f).heap[j]? = w.heap[j]?) ∧ ((((((w.alloc a).alloc b).alloc c).alloc d).alloc e).alloc f).heap[w.heap.size + 2]? = some c ∧
  ((((((w.alloc a).alloc b).alloc c).alloc d).alloc e).alloc f).heap[w.heap.size + 3]? = some d ∧ ((((((w.alloc a).alloc b).alloc c).alloc d).alloc e).alloc f).heap[w.heap.size + 4]? = some e ∧ ((((((w.alloc a).alloc b).alloc c).alloc d).alloc e).alloc f).heap[w.heap.size + 5]? = some f ∧
  ((((((w.alloc a).alloc b).alloc c).alloc d).alloc e).alloc f).heap.size = w.heap.size + 6 ∧ Below w.heap.size w ((((((w.alloc a).alloc b).alloc c).alloc d).alloc e).alloc f) := by
 have hb : Below w.heap.size w ((((((w.alloc a).alloc b).alloc c).alloc d).alloc e).alloc f) := ((((((Below.refl _ _).alloc (Nat.le_refl _) _).alloc (by simp) _).alloc (by simp; omega) _).alloc (by simp; omega) _).alloc (by simp; omega) _).alloc (by simp; omega) _
 refine ⟨fun j hj => hb.block j hj, ?_, ?_, ?_, ?_, by simp, hb⟩
 ·rw [heap_alloc_old _ _ (by simp), heap_alloc_old _ _ (by simp), heap_alloc_old _ _ (by simp)]
  simpa using heap_alloc_new ((w.alloc a).alloc b) c
 ·rw [heap_alloc_old _ _ (by simp), heap_alloc_old _ _ (by simp)]
  simpa using heap_alloc_new (((w.alloc a).alloc b).alloc c) d
 ·rw [heap_alloc_old _ _ (by simp)]
  simpa using heap_alloc_new ((((w.alloc a).alloc b).alloc c).alloc d) e
 ·simpa using heap_alloc_new (((((w.alloc a).alloc b).alloc c).alloc d).alloc e) f
theorem addr_flat (g o j : Nat) : (⟨g, o, none⟩ : Addr).add j = ⟨g, o + j, none⟩ := by unfold Addr.add; split <;> simp_all
theorem pair_cells {w : World} {B g n cap : Nat} {e : TypeId} {ys : List Value} {u v : Value} (h : w.ownsRow B e 2 (.slice (some ⟨g, 0, none⟩) (n + 1) cap) (n + 1) (ys ++ [u, v])) (hl : ys.length = n * 2) :
  w.cell? ⟨g, n * 2, none⟩ = some u ∧ w.cell? ⟨g, n * 2 + 1, none⟩ = some v ∧ n + 1 ≤ cap := by
 have hc := h.cells (g := g) rfl
 refine ⟨?_, ?_, ?_⟩
 ·have := hc (n * 2) u (by rw [List.getElem?_append_right (by omega), hl, Nat.sub_self]; rfl)
  rwa [addr_flat, Nat.zero_add] at this
 ·have := hc (n * 2 + 1) v (by rw [List.getElem?_append_right (by omega), hl, show n * 2 + 1 - n * 2 = 1 by omega]; rfl)
  rwa [addr_flat, Nat.zero_add] at this
 ·rcases h.2 with ⟨h0, _⟩ | ⟨_, _, _, hv, _, _, hle, _⟩
  ·cases h0
  ·cases hv; exact hle
theorem eq_start2 (k1 n1 : Int) (s1 : ByteArray) (l1 : F) (k2 n2 : Int) (s2 : ByteArray) (l2 : F) (ad ad2 : Option Addr) (cap cap2 : Nat) (w one : World) (hr : RepG w (fun _ => True) ad l1) (hr2 : RepG w (fun _ => True) ad2 l2) (a b : Obj) (tv tp : TypeId) (htp : tp = 184)
  (h : one = ((((((w.alloc a).alloc b).alloc (.map #[] 0)).alloc (.cells #[.int .i64 k1, .int .i64 n1, .string s1, .slice ad l1.len cap] tv)).alloc (.cells #[.int .i64 k2, .int .i64 n2, .string s2, .slice ad2 l2.len cap2] tv)).alloc (.cells #[.slice (some ⟨w.heap.size + 3, 0, none⟩) 1 1, .slice (some ⟨w.heap.size + 4, 0, none⟩) 1 1] tp))) :
  EqI2 w one (fun p => p) [] [(.cons k1 n1 s1 l1 .nil, .cons k2 n2 s2 l2 .nil)] (some ⟨w.heap.size + 5, 0, none⟩) 1 [.slice (some ⟨w.heap.size + 3, 0, none⟩) 1 1, .slice (some ⟨w.heap.size + 4, 0, none⟩) 1 1] one ∧ one.heap.size = w.heap.size + 6 ∧ Below w.heap.size w one := by
 obtain ⟨h0, h2, h3, h4, h5, h6, h7⟩ := six_allocs w a b (.map #[] 0) (.cells #[.int .i64 k1, .int .i64 n1, .string s1, .slice ad l1.len cap] tv) (.cells #[.int .i64 k2, .int .i64 n2, .string s2, .slice ad2 l2.len cap2] tv) (.cells #[.slice (some ⟨w.heap.size + 3, 0, none⟩) 1 1, .slice (some ⟨w.heap.size + 4, 0, none⟩) 1 1] tp)
 rw [← h] at h0 h2 h3 h4 h5 h6 h7
 clear h
 subst htp
 have kids : ∀ (x : Option Addr) (l : F), RepG w (fun _ => True) x l → l = .nil ∨ ∃ b' o', x = some ⟨b', o', none⟩ ∧ RepA one (fun j => j < w.heap.size + 5) b' o' l := fun x l hx => hx.to (fun j _ hj => ⟨by omega, h0 j hj⟩)
 have cell : ∀ (j o : Nat) (cs : Array Value) (t : TypeId), one.heap[j]? = some (.cells cs t (0, 0)) → one.cell? ⟨j, o, none⟩ = cs[o]? := fun j o cs t hj => by
  unfold World.cell?
  simp only [hj]
  rfl
 refine ⟨⟨⟨rfl, .inr ⟨w.heap.size + 5, 1, _, rfl, Nat.le_refl _, h5, Nat.le_refl 1, by unfold maxLen; omega, rfl, rfl⟩⟩, ?_, ⟨#[], 0, h2, rfl⟩, ⟨fun _ => 0, ⟨fun _ h => (by cases h), fun _ _ => rfl⟩, fun _ h => (by cases h)⟩, ⟨rfl, rfl, rfl, Nat.le_refl _, fun _ _ _ _ => rfl⟩⟩, h6, h7⟩
 refine ⟨w.heap.size + 3, 0, 1, w.heap.size + 4, 0, 1, [], rfl, ?_, ?_, ⟨Nat.le_refl 1, rfl⟩, rfl⟩
 ·exact ⟨⟨by show _ < _; omega, _, _, h3⟩, by rw [cell _ _ _ _ h3]; rfl, by rw [cell _ _ _ _ h3]; rfl, by rw [cell _ _ _ _ h3]; rfl, ⟨ad, cap, by rw [cell _ _ _ _ h3]; rfl, kids ad l1 hr⟩, trivial⟩
 ·exact ⟨⟨by show _ < _; omega, _, _, h4⟩, by rw [cell _ _ _ _ h4]; rfl, by rw [cell _ _ _ _ h4]; rfl, by rw [cell _ _ _ _ h4]; rfl, ⟨ad2, cap2, by rw [cell _ _ _ _ h4]; rfl, kids ad2 l2 hr2⟩, trivial⟩
def EqAns (F0 G0 : F) (e : Ending) : Prop := ∃ r : Bool, e = .returned (.bool r) ∧ (r = true ↔ F0 = G0)
theorem eq_any (k1 n1 : Int) (s1 : ByteArray) (l1 : F) (k2 n2 : Int) (s2 : ByteArray) (l2 : F) (ad ad2 : Option Addr) (cap cap2 : Nat) (w : World) (hn : l1.cnt ≤ 1000000) (hr : RepG w (fun _ => True) ad l1) (hr2 : RepG w (fun _ => True) ad2 l2) :
  Calls Tryz.prog 87 #[.agg #[.int .i64 k1, .int .i64 n1, .string s1, .slice ad l1.len cap], .agg #[.int .i64 k2, .int .i64 n2, .string s2, .slice ad2 l2.len cap2]] w fun e w' => EqAns (.cons k1 n1 s1 l1 .nil) (.cons k2 n2 s2 l2 .nil) e ∧ Below w.heap.size w w' := by
 have HR := Lib.hid (And.intro hr (And.intro hr2 hn))
 clear hr hr2 hn
 have hmm := @run_makeMap Tryz.prog
 go_enter Tryz.func87, Tryz.ntmps87
 go_wp2_with fail
 have HS := Lib.hid (fun one h => eq_start2 k1 n1 s1 l1 k2 n2 s2 l2 ad ad2 cap cap2 w one HR.out.1 HR.out.2.1 (.cells #[.int .i64 k1, .int .i64 n1, .string s1, .slice ad l1.len cap] 88) (.cells #[.int .i64 k2, .int .i64 n2, .string s2, .slice ad2 l2.len cap2] 88) 88 184 rfl h)
 clear hmm
 generalize hone : (((((w.alloc (.cells #[.int .i64 k1, .int .i64 n1, .string s1, .slice ad l1.len cap] 88)).alloc (.cells #[.int .i64 k2, .int .i64 n2, .string s2, .slice ad2 l2.len cap2] 88)).alloc (.map #[] 0)).alloc (.cells #[.int .i64 k1, .int .i64 n1, .string s1, .slice ad l1.len cap] 88)).alloc (.cells #[.int .i64 k2, .int .i64 n2, .string s2, .slice ad2 l2.len cap2] 88)).alloc (.cells #[.slice (some ⟨w.heap.size + 1 + 1 + 1, 0, none⟩) 1 1, .slice (some ⟨w.heap.size + 1 + 1 + 1 + 1, 0, none⟩) 1 1] 184) = one
 have HS1 := Lib.hid (HS.out one hone.symm)
 clear HS hone
 have HC1 : Hid ((F.cons k1 n1 s1 l1 .nil).cnt ≤ 1000001 ∧ 1 ≤ (F.cons k1 n1 s1 l1 .nil).cnt) := Lib.hid (by simp only [F.cnt]; have := HR.out.2.2; omega)
 obtain ⟨F0, hF0⟩ : ∃ F0, F.cons k1 n1 s1 l1 .nil = F0 := ⟨_, rfl⟩
 obtain ⟨G0, hG0⟩ : ∃ G0, F.cons k2 n2 s2 l2 .nil = G0 := ⟨_, rfl⟩
 rw [hF0] at HC1 HS1
 rw [hG0] at HS1
 have HFG : Hid (F0 = G0 ↔ F.cons k1 n1 s1 l1 .nil = F.cons k2 n2 s2 l2 .nil) := Lib.hid (by rw [hF0, hG0])
 clear hF0 hG0
 go_loopg [6] (F0.cnt) (fun gk lv wr => EqOut2 w one F0 G0 1000001 gk lv wr)
 case atStart => exact ⟨fun p => p, [], [(F0, G0)], _, _, _, rfl, by simp [total2], by have := HC1.out; simp only [total2]; omega, by have := HC1.out; simp only [total2, List.length_cons, List.length_nil]; omega, Lib.hid HS1.out.1, Lib.hid ⟨Snd.start _ Den.same F0 G0, fun h e he => (by rw [List.mem_singleton.1 he]; exact h)⟩⟩
 case round =>
  obtain ⟨cl, E, L, va, vc, xs, rfl, hk, hN, hLt, HI, HLG⟩ := hrel
  have hB : Below w.heap.size w wr := by
   have h1 := HI.out.2.2.2.2
   have h2 := HS1.out.2
   refine ⟨h1.os.trans h2.2.os, h1.tape.trans h2.2.tape, h1.output.trans h2.2.output, Nat.le_trans h2.2.size h1.size, fun j hj => ?_⟩
   rw [h1.block j (by omega) (by omega) (by omega)]
   exact h2.2.block j hj
  by_cases hL0 : L = []
  ·subst hL0
   have HB := Lib.hid hB
   clear hB
   have HE : Hid (F0 = G0) := Lib.hid HLG.out.1.done
   clear HLG
   go_wp2_with fail
   refine bodyPost_ret (v := .bool true) (by simp [results, Tryz.results87, go_sem]) rfl ⟨⟨true, rfl, fun _ => HFG.out.1 HE.out, fun _ => rfl⟩, HB.out⟩
  ·have HBW := Lib.hid hB
   obtain ⟨M, ⟨f, g⟩, rfl⟩ := snoc_of L hL0
   clear hL0 hB
   obtain ⟨b, o, c, b', o', c', ys, rfl, t1, t2, hf, hP⟩ := RepP2.pop M xs HI.out.2.1
   have hown := HI.out.1
   have hMl : (M ++ [(f, g)]).length = M.length + 1 := by simp
   have hMt : total2 (M ++ [(f, g)]) = total2 M + f.cnt := by rw [total2_app]; simp [total2]
   rw [hMl] at hown hLt ⊢
   obtain ⟨gq, cp, hsl⟩ := Joins.ownsRow_form hown (by omega)
   simp only [Value.slice.injEq] at hsl
   obtain ⟨rfl, _, rfl⟩ := hsl
   have hxl := hP.len
   obtain ⟨d0, d1, hcap⟩ := pair_cells hown hxl
   have hcap0 : M.length ≤ vc := by omega
   have d00 : wr.cell? ⟨gq, M.length * 2 + 0, none⟩ = some (.slice (some ⟨b, o, none⟩) f.len c) := d0
   have hpop := ownsRow_pop (by rw [hxl]) hown
   have HOW := Lib.hid (And.intro hpop (And.intro hP (And.intro t1 (And.intro t2 hf))))
   have HK := Lib.hid (And.intro hk (And.intro hN (And.intro hLt hMt)))
   have hlen0 : (0 : Int) < (M.length : Int) + 1 := by omega
   have hML : M.length + 1 ≤ 1000001 := by omega
   have hFL : f.len ≤ 1000001 := by have := F.len_le_cnt f; omega
   have hw1 : IntKind.i64.wrap ((M.length : Int) + 1 - 1) = (M.length : Int) := by rw [show (M.length : Int) + 1 - 1 = (M.length : Int) by omega]; exact IntWalk.i64_in _ (by omega)
   clear hk hN hLt hMt hown hxl hP t1 t2 hpop
   go_wp2_with fail
   have hst : EqIn2 w one F0 G0 (total2 M + f.cnt) f g wr.heap.size b o c b' o' c' f.len (.slice (some ⟨gq, 0, none⟩) M.length vc) (.int .i64 0) (wr.alloc (.cells #[.slice (some ⟨b, o, none⟩) f.len c, .slice (some ⟨b', o', none⟩) f.len c'] 184)) := by
    have hone := HI.out.2.2.2.2.size
    have hb := (Below.refl wr.heap.size wr).alloc (Nat.le_refl _) (.cells #[.slice (some ⟨b, o, none⟩) f.len c, .slice (some ⟨b', o', none⟩) f.len c'] 184)
    refine ⟨cl, E, M, some ⟨gq, 0, none⟩, vc, ys, 0, .nil, .nil, f, g, rfl, rfl, rfl, by omega, HOW.out.2.2.2.2.2, ?_, by omega, Lib.hid ⟨owns_below HOW.out.1 hb, HOW.out.2.1, HI.out.2.2.1.of_block (hb.block _ HI.out.2.2.1.lt), HI.out.2.2.2.1, HI.out.2.2.2.2.below (hb.mono hone)⟩, Lib.hid ⟨by simpa using HOW.out.2.2.1, by simpa using HOW.out.2.2.2.1, ?_, by simp, hone⟩, Lib.hid ⟨HLG.out, trivial, rfl, rfl⟩, ?_, ?_⟩
    ·exact RepP2.total_le M ys HOW.out.2.1
    ·intro e
     have := owns_old HOW.out.1 _ e
     omega
    ·go_simp
    ·go_simp
   obtain ⟨P, hP⟩ : ∃ P, wr.heap.size = P := ⟨_, rfl⟩
   rw [hP] at hst ⊢
   generalize wr.alloc (.cells #[.slice (some ⟨b, o, none⟩) f.len c, .slice (some ⟨b', o', none⟩) f.len c'] 184) = W0 at hst ⊢
   have HST := Lib.hid hst
   clear hP hst d0 d1 d00 HOW HI HLG hcap hcap0 hw1 hlen0 hML
   go_loopg [6, 35] f.len (fun gk lv iv wr2 => EqIn2 w one F0 G0 (total2 M + f.cnt) f g P b o c b' o' c' gk lv iv wr2)
   case atStart => exact HST.out
   case round =>
    obtain ⟨cl2, E2, L2, va, vc2, xs2, i, df, dg, gf, gg, rfl, rfl, hk2, hil, hgl, hLt2, hT2, HI2, HT, HLG, p0, p1⟩ := hrel
    cases gf with
    | nil =>
     have hge : ¬ (i : Int) < (f.len : Int) := by simp only [F.len] at hil; omega
     have HEND : Hid (EqOut2 w one F0 G0 1000001 (total2 L2) (.slice va L2.length vc2) wr) := Lib.hid (by
      refine ⟨cl2, E2, L2, va, vc2, xs2, rfl, rfl, by have := HK.out; simp only [F.cnt] at hT2; omega, hLt2, HI2.out, Lib.hid ?_⟩
      obtain ⟨⟨e1, e2⟩, e3, e4, e5⟩ := HLG.out
      cases gg with
      | nil =>
       rw [F.app_nil] at e4 e5
       subst e4 e5
       exact ⟨e1.drop e3 (fun e he => by
        rcases List.mem_append.1 he with h | h
        ·exact .inl h
        ·exact .inr (List.mem_singleton.1 h)), fun h e he => e2 h e (List.mem_append_left _ he)⟩
      | cons => simp [F.len] at hgl)
     have HM2 : Hid (total2 L2 < total2 (M ++ [(f, g)])) := Lib.hid (by have := HK.out; simp only [F.cnt, F.len] at hT2 hil; omega)
     clear hk2 hil hgl hLt2 hT2 HT HLG
     go_wp2_with fail
     go_roundg (total2 L2)
     case measure =>
      have := HK.out.1
      have := HM2.out
      omega
     case rel => exact HEND.out
    | cons k' n' s' l' r' =>
     cases gg with
     | nil => exfalso; simp [F.len] at hgl
     | cons k4 n4 s4 l4 r4 =>
     obtain ⟨a1, c1, x1, y1, z1⟩ := HI2.out.open_at HS1.out.1.2.2.1 HT.out.1
     obtain ⟨a2, c2, x2, y2, z2⟩ := HI2.out.open_at HS1.out.1.2.2.1 HT.out.2.1
     have HF : Hid (EqF2 w one cl2 E2 L2 va vc2 xs2 P b o f.len c b' o' c' i k' n' s' k4 n4 s4 a1 a2 c1 c2 l'.len l4.len wr) := Lib.hid ⟨HI2.out, ⟨p0, p1⟩, x1, x2⟩
     have HBB : Hid (b < w.heap.size + 5 ∧ b' < w.heap.size + 5) := Lib.hid ⟨HT.out.1.1.1, HT.out.2.1.1.1⟩
     have HY := Lib.hid (And.intro y1 (And.intro y2 (And.intro z1 z2)))
     have HQ := Lib.hid (And.intro hk2 (And.intro hil (And.intro hLt2 (And.intro hT2 HT.out.2.2))))
     have HGL : Hid (r4.len = r'.len) := Lib.hid (by simp only [F.len] at hgl; omega)
     have hlt : (i : Int) < (f.len : Int) := by simp only [F.len] at hil; omega
     have hlt' : i < f.len := by simp only [F.len] at hil; omega
     have hL2 : L2.length ≤ 1000001 := by have := HK.out; omega
     clear x1 x2 y1 y2 z1 z2 hk2 hil hgl hLt2 hT2 HT HI2
     go_wp2_with fail
     go_still (by kernel_rfl)
     change Exit.then _ _ _ _ (World.drew wr)
     have HF1 := Lib.hid (HF.out.below (Below.refl wr.heap.size wr).drew)
     clear HF p0 p1
     generalize World.drew wr = W1 at *
     go_wp2_with fail
     have HNE : Hid (¬ (k' = k4 ∧ n' = n4 ∧ s' = s4 ∧ l' = l4) → ¬ F0 = G0) := Lib.hid (fun hd h0 => by
      obtain ⟨⟨_, e2⟩, e3, e4, e5⟩ := HLG.out
      have hfg : f = g := e2 h0 (f, g) (List.mem_append_right _ List.mem_cons_self)
      rw [e4, e5] at hfg
      have := app_inj df dg _ _ hfg (eqK_len df dg e3)
      simp only [F.cons.injEq] at this
      exact hd ⟨this.1, this.2.1, this.2.2.1, this.2.2.2.1⟩)
     have HB1 : Hid (Below w.heap.size w W1) := Lib.hid (by
      have h1 := HF1.out.1.2.2.2.2
      have h2 := HS1.out.2
      refine ⟨h1.os.trans h2.2.os, h1.tape.trans h2.2.tape, h1.output.trans h2.2.output, Nat.le_trans h2.2.size h1.size, fun j hj => ?_⟩
      rw [h1.block j (by omega) (by omega) (by omega)]
      exact h2.2.block j hj)
     by_cases hd1 : k' = k4
     case neg =>
      have HN0 : Hid (¬ F0 = G0) := Lib.hid (HNE.out (fun h => hd1 h.1))
      have hb1 : (k' != k4) = true := by rw [bne_iff_ne]; exact hd1
      obtain ⟨-, -, ⟨x0, x1, x2, x3⟩, ⟨y0, y1, y2, y3⟩⟩ := id HF1.out
      have x00 := x0
      have y00 := y0
      rw [← Nat.add_zero (o + i * 4)] at x00
      rw [← Nat.add_zero (o' + i * 4)] at y00
      go_quiet (fail)
      have HBn : Hid (Below w.heap.size w (World.drewN W1 nq)) := Lib.hid ⟨HB1.out.os, HB1.out.tape, HB1.out.output, HB1.out.size, HB1.out.block⟩
      clear HF1 HB1 x0 x1 x2 x3 y0 y1 y2 y3 x00 y00
      generalize World.drewN W1 nq = W2 at *
      go_wp2_with fail
      refine bodyPost_ret (v := .bool false) (by simp [results, Tryz.results87, go_sem]) rfl ⟨⟨false, rfl, fun h => (by cases h), fun h => absurd (HFG.out.2 h) HN0.out⟩, HBn.out⟩
     case pos =>
     subst hd1
     by_cases hd2 : n' = n4
     case neg =>
      have HN0 : Hid (¬ F0 = G0) := Lib.hid (HNE.out (fun h => hd2 h.2.1))
      have hb1 : (n' != n4) = true := by rw [bne_iff_ne]; exact hd2
      obtain ⟨-, -, ⟨x0, x1, x2, x3⟩, ⟨y0, y1, y2, y3⟩⟩ := id HF1.out
      have x00 := x0
      have y00 := y0
      rw [← Nat.add_zero (o + i * 4)] at x00
      rw [← Nat.add_zero (o' + i * 4)] at y00
      go_quiet (fail)
      have HBn : Hid (Below w.heap.size w (World.drewN W1 nq)) := Lib.hid ⟨HB1.out.os, HB1.out.tape, HB1.out.output, HB1.out.size, HB1.out.block⟩
      clear HF1 HB1 x0 x1 x2 x3 y0 y1 y2 y3 x00 y00
      generalize World.drewN W1 nq = W2 at *
      go_wp2_with fail
      refine bodyPost_ret (v := .bool false) (by simp [results, Tryz.results87, go_sem]) rfl ⟨⟨false, rfl, fun h => (by cases h), fun h => absurd (HFG.out.2 h) HN0.out⟩, HBn.out⟩
     case pos =>
     subst hd2
     by_cases hd3 : s' = s4
     case neg =>
      have HN0 : Hid (¬ F0 = G0) := Lib.hid (HNE.out (fun h => hd3 h.2.2.1))
      have hb2 : (s'.toList == s4.toList) = false := by
       rw [beq_eq_false_iff_ne]
       intro e
       rw [ByteArray.toList_eq, ByteArray.toList_eq] at e
       exact hd3 (ByteArray.ext (Array.ext' e))
      obtain ⟨-, -, ⟨x0, x1, x2, x3⟩, ⟨y0, y1, y2, y3⟩⟩ := id HF1.out
      have x00 := x0
      have y00 := y0
      rw [← Nat.add_zero (o + i * 4)] at x00
      rw [← Nat.add_zero (o' + i * 4)] at y00
      go_quiet (fail)
      have HBn : Hid (Below w.heap.size w (World.drewN W1 nq)) := Lib.hid ⟨HB1.out.os, HB1.out.tape, HB1.out.output, HB1.out.size, HB1.out.block⟩
      clear HF1 HB1 x0 x1 x2 x3 y0 y1 y2 y3 x00 y00
      generalize World.drewN W1 nq = W2 at *
      go_wp2_with fail
      refine bodyPost_ret (v := .bool false) (by simp [results, Tryz.results87, go_sem]) rfl ⟨⟨false, rfl, fun h => (by cases h), fun h => absurd (HFG.out.2 h) HN0.out⟩, HBn.out⟩
     case pos =>
     subst hd3
     by_cases hd4 : l4.len = l'.len
     case neg =>
      have HN0 : Hid (¬ F0 = G0) := Lib.hid (HNE.out (fun h => hd4 (by rw [h.2.2.2])))
      have hb1 : ((l'.len : Int) != (l4.len : Int)) = true := by rw [bne_iff_ne]; omega
      have hb2 : ¬ l'.len = l4.len := fun e => hd4 e.symm
      have hb3 : (l'.len != l4.len) = true := by rw [bne_iff_ne]; exact hb2
      obtain ⟨-, -, ⟨x0, x1, x2, x3⟩, ⟨y0, y1, y2, y3⟩⟩ := id HF1.out
      have x00 := x0
      have y00 := y0
      rw [← Nat.add_zero (o + i * 4)] at x00
      rw [← Nat.add_zero (o' + i * 4)] at y00
      go_quiet (fail)
      have HBn : Hid (Below w.heap.size w (World.drewN W1 nq)) := Lib.hid ⟨HB1.out.os, HB1.out.tape, HB1.out.output, HB1.out.size, HB1.out.block⟩
      clear HF1 HB1 x0 x1 x2 x3 y0 y1 y2 y3 x00 y00
      generalize World.drewN W1 nq = W2 at *
      go_wp2_with fail
      refine bodyPost_ret (v := .bool false) (by simp [results, Tryz.results87, go_sem]) rfl ⟨⟨false, rfl, fun h => (by cases h), fun h => absurd (HFG.out.2 h) HN0.out⟩, HBn.out⟩
     case pos =>
     rw [hd4] at HF1
     obtain ⟨-, -, ⟨x0, x1, x2, x3⟩, ⟨y0, y1, y2, y3⟩⟩ := id HF1.out
     have x00 : W1.cell? ⟨b, o + i * 4 + 0, none⟩ = some (.int .i64 k') := x0
     have y00 : W1.cell? ⟨b', o' + i * 4 + 0, none⟩ = some (.int .i64 k') := y0
     have HD4 := Lib.hid hd4
     clear hd4
     go_still (by kernel_rfl)
     change Exit.then _ _ _ _ (World.drew W1)
     have HF2 := Lib.hid (HF1.out.below (Below.refl W1.heap.size W1).drew)
     clear HF1 x0 x1 x2 x3 y0 y1 y2 y3 x00 y00
     generalize World.drew W1 = W2 at *
     go_wp2_with fail
     cases l' with
     | nil =>
      have x3 : W2.cell? ⟨b, o + i * 4 + 3, none⟩ = some (.slice a1 0 c1) := HF2.out.2.2.1.2.2.2
      go_quiet (fail)
      have HF3 := Lib.hid (HF2.out.below (W' := World.drewN W2 nq) ⟨rfl, rfl, rfl, Nat.le_refl _, fun _ _ => rfl⟩)
      clear HF2 x3
      generalize World.drewN W2 nq = W3 at *
      clear W2
      have HEND : Hid (EqIn2 w one F0 G0 (total2 M + f.cnt) f g P b o c b' o' c' r'.len (.slice va L2.length vc2) (.int .i64 ((i + 1 : Nat) : Int)) W3) := Lib.hid (by
       obtain ⟨q1, q2, q3, q4, q5, q6, q7⟩ := HQ.out
       obtain ⟨q0, q8, q9⟩ := HF3.out
       obtain ⟨e1, e3, e4, e5⟩ := HLG.out
       simp only [F.len, F.cnt] at q2 q4
       have hl4 : l4 = .nil := F.len_zero HD4.out
       subst hl4
       refine ⟨cl2, E2, L2, va, vc2, xs2, i + 1, df.app (.cons k' n' s' .nil .nil), dg.app (.cons k' n' s' .nil .nil), r', r4, rfl, rfl, rfl, by omega, HGL.out, q3, by omega, Lib.hid q0, Lib.hid ⟨?_, ?_, q5, World.block_lt_of_cell? W3 _ q8.1, q7⟩, Lib.hid ⟨e1, eqK_snoc (.inl ⟨rfl, rfl⟩) df dg e3, by rw [F.app_assoc]; exact e4, by rw [F.app_assoc]; exact e5⟩, q8.1, q8.2⟩
       ·rw [show o + (i + 1) * 4 = o + i * 4 + 4 by omega]; exact HY.out.2.2.1
       ·rw [show o' + (i + 1) * 4 = o' + i * 4 + 4 by omega]; exact HY.out.2.2.2)
      go_wp2_with fail
      go_roundg r'.len
      case measure =>
       have := HQ.out.1
       simp only [F.len] at this
       omega
      case rel => exact HEND.out
     | cons k3 n3 s3 l3 r3 =>
      obtain ⟨bx, ox, rfl, t1⟩ := HY.out.1.resolve_left (by simp)
      obtain ⟨by', oy, rfl, t2⟩ := HY.out.2.1.resolve_left (fun e => by have h4 := HD4.out; rw [e] at h4; simp [F.len] at h4)
      have hm1 : 1 ≤ (F.cons k3 n3 s3 l3 r3).len := by simp only [F.len]; omega
      generalize F.cons k3 n3 s3 l3 r3 = lf at *
      obtain ⟨m, hm⟩ : ∃ m, lf.len = m := ⟨_, rfl⟩
      have HT := Lib.hid (And.intro t1 (And.intro t2 (And.intro hm1 hm)))
      rw [hm] at HF2 hm1
      have hmi : (0 : Int) < (m : Int) := by omega
      have hm0 : 0 < m := by omega
      have h4m : l4.len = m := HD4.out.trans hm
      have hgx : ∀ (q : F) bb oo, q.len = m → RepA one (fun j => j < w.heap.size + 5) bb oo q → GoodP one (⟨bb, oo, none⟩, (m : Int)) ∧ bb < w.heap.size + 5 := fun q bb oo hq ht => by
       cases q with
       | nil => simp only [F.len] at hq; omega
       | cons => exact ⟨ht.1.2, ht.1.1⟩
      have HGX := Lib.hid (And.intro (hgx lf bx ox hm t1) (hgx l4 by' oy h4m t2))
      have HDN : Hid (Den one (fun j => j < w.heap.size + 5) (⟨bx, ox, none⟩, (m : Int)) lf ∧ Den one (fun j => j < w.heap.size + 5) (⟨by', oy, none⟩, (m : Int)) l4) := Lib.hid ⟨⟨bx, ox, by rw [hm], t1⟩, ⟨by', oy, by rw [h4m], t2⟩⟩
      clear h4m
      clear hgx t1 t2 hm
      have hS0 : (World.drew W2).cell? ⟨b, o + i * 4 + 3, none⟩ = some (.slice (some ⟨bx, ox, none⟩) m c1) ∧ (World.drew W2).cell? ⟨b', o' + i * 4 + 3, none⟩ = some (.slice (some ⟨by', oy, none⟩) m c2) := ⟨HF2.out.2.2.1.2.2.2, HF2.out.2.2.2.2.2.2⟩
      refine wp_region_held (S := fun W => W.cell? ⟨b, o + i * 4 + 3, none⟩ = some (.slice (some ⟨bx, ox, none⟩) m c1) ∧ W.cell? ⟨b', o' + i * 4 + 3, none⟩ = some (.slice (some ⟨by', oy, none⟩) m c2)) (by kernel_rfl) ?_
      change wpAnyH _ _ _ _ _ _ _ _ (World.drew _)
      refine tq 0 (.pointer (some ⟨b, o + i * 4, none⟩)) rfl ?_ hS0 ?_
      ·intro w' ⟨s0, s1⟩; go_simp
      refine tq 1 (.pointer (some ⟨b, o + i * 4, none⟩)) rfl ?_ hS0 ?_
      ·intro w' ⟨s0, s1⟩; go_simp
      refine tq 2 (.pointer (some ⟨b, o + i * 4 + 3, none⟩)) rfl ?_ hS0 ?_
      ·intro w' ⟨s0, s1⟩; go_simp
      refine tq 3 (.slice (some ⟨bx, ox, none⟩) m c1) rfl ?_ hS0 ?_
      ·intro w' ⟨s0, s1⟩; go_simp
      refine tq 4 (.int .i64 (m : Nat)) rfl ?_ hS0 ?_
      ·intro w' ⟨s0, s1⟩; go_simp
      refine tq 5 (.bool true) rfl ?_ hS0 ?_
      ·intro w' ⟨s0, s1⟩; go_simp
      refine tq 6 (.bool true) rfl ?_ hS0 ?_
      ·intro w' ⟨s0, s1⟩; go_simp
      refine tq 7 (.map (some (w.heap.size + 1 + 1))) rfl ?_ hS0 ?_
      ·intro w' ⟨s0, s1⟩; go_simp
      refine tq 8 (.pointer (some ⟨b, o + i * 4, none⟩)) rfl ?_ hS0 ?_
      ·intro w' ⟨s0, s1⟩; go_simp
      refine tq 9 (.pointer (some ⟨b, o + i * 4, none⟩)) rfl ?_ hS0 ?_
      ·intro w' ⟨s0, s1⟩; go_simp
      refine tq 10 (.pointer (some ⟨b, o + i * 4 + 3, none⟩)) rfl ?_ hS0 ?_
      ·intro w' ⟨s0, s1⟩; go_simp
      refine tq 11 (.slice (some ⟨bx, ox, none⟩) m c1) rfl ?_ hS0 ?_
      ·intro w' ⟨s0, s1⟩; go_simp
      refine tq 13 (.pointer (some ⟨b', o' + i * 4, none⟩)) rfl ?_ hS0 ?_
      ·intro w' ⟨s0, s1⟩; go_simp
      refine tq 14 (.pointer (some ⟨b', o' + i * 4, none⟩)) rfl ?_ hS0 ?_
      ·intro w' ⟨s0, s1⟩; go_simp
      refine tq 15 (.pointer (some ⟨b', o' + i * 4 + 3, none⟩)) rfl ?_ hS0 ?_
      ·intro w' ⟨s0, s1⟩; go_simp
      refine tq 16 (.slice (some ⟨by', oy, none⟩) m c2) rfl ?_ hS0 ?_
      ·intro w' ⟨s0, s1⟩; go_simp
      have HF3 := Lib.hid (HF2.out.below (Below.refl W2.heap.size W2).drew)
      clear HF2 hS0
      generalize World.drew W2 = W3 at *
      refine wpAnyH_ready (rs := [12]) (by kernel_rfl) (by simp) ?_
      refine AllReadyH.cons rfl (fun K hK => ?_) AllReadyH.nil
      go_simp
      refine (place_p bx ox m c1 (by omega) W3).mono ?_
      rintro _ w4 ⟨rfl, hb4⟩
      have HF4 := Lib.hid (HF3.out.below hb4)
      clear hb4 HF3
      refine hK.out _ _ ⟨HF4.out.2.2.1.2.2.2, HF4.out.2.2.2.2.2.2⟩ (fun _ => ?_)
      clear hK
      refine wpAnyH_ready (rs := [17]) (by kernel_rfl) (by simp) ?_
      refine AllReadyH.cons rfl (fun K hK => ?_) AllReadyH.nil
      go_simp
      refine (place_p by' oy m c2 (by omega) w4).mono ?_
      rintro _ w5 ⟨rfl, hb5⟩
      have HF5 := Lib.hid (HF4.out.below hb5)
      clear hb5 HF4
      refine hK.out _ _ ⟨HF5.out.2.2.1.2.2.2, HF5.out.2.2.2.2.2.2⟩ (fun _ => ?_)
      clear hK
      refine wpAnyH_ready (rs := [18]) (by kernel_rfl) (by simp) ?_
      refine AllReadyH.cons rfl (fun K hK => ?_) AllReadyH.nil
      go_simp
      refine (join_c cl2 (w.heap.size + 2) E2 ⟨bx, ox, none⟩ ⟨by', oy, none⟩ (m : Int) (m : Int) w5 (fun p => GoodP one p ∧ p.1.block < w.heap.size + 5) (fun p hp => by
       have i5 := HF5.out.1.2.2.2.2
       have h2 := hp.1.ne HS1.out.1.2.2.1
       obtain ⟨⟨cur, t, hh⟩, hl⟩ := hp
       exact ⟨cur, t, by rw [i5.block _ (lt_of_heap hh) h2 (by omega)]; exact hh⟩) HF5.out.1.2.2.1 HF5.out.1.2.2.2.1 HGX.out.1 HGX.out.2).mono ?_
      rintro _ w6 ⟨jb, rfl, E3, cl3, j1, j2, j3, j4⟩
      have HJC := Lib.hid j4
      have HF6 := Lib.hid (HF5.out.join j1 j2 j3)
      have HP6 : Hid (P < w6.heap.size ∧ (Value.slice va L2.length vc2).ownBlock ≠ some P) := Lib.hid ⟨World.block_lt_of_cell? w6 _ HF6.out.2.1.1, HQ.out.2.2.2.2.1⟩
      clear j1 j2 j3 j4 HF5
      refine hK.out _ _ ⟨HF6.out.2.2.1.2.2.2, HF6.out.2.2.2.2.2.2⟩ (fun hS0 => ?_)
      clear hK
      refine tq 19 (.bool jb) rfl ?_ hS0 ?_
      ·intro w' ⟨s0, s1⟩; go_simp
      refine wpAnyH_done (by kernel_rfl) ?_ _
      clear hS0
      obtain ⟨i1, hi1, hy0, hy1, hy2⟩ := info_parts infoPair
      have HQ2 : Hid (r'.len < F.len (.cons k' n' s' lf r') ∧ i + 1 + r'.len = f.len ∧ L2.length ≤ total2 L2 ∧ total2 L2 + (lf.cnt + r'.cnt) + (i + 1) ≤ total2 M + f.cnt ∧ one.heap.size ≤ P) := Lib.hid (by
       obtain ⟨q1, q2, q3, q4, q5, q6, q7⟩ := HQ.out
       simp only [F.len, F.cnt] at q2 q4 ⊢
       exact ⟨by omega, by omega, q3, by omega, q7⟩)
      have HZ : Hid (RepA one (fun j => j < w.heap.size + 5) b (o + (i + 1) * 4) r' ∧ RepA one (fun j => j < w.heap.size + 5) b' (o' + (i + 1) * 4) r4) := Lib.hid (by
       refine ⟨?_, ?_⟩
       ·rw [show o + (i + 1) * 4 = o + i * 4 + 4 by omega]; exact HY.out.2.2.1
       ·rw [show o' + (i + 1) * 4 = o' + i * 4 + 4 by omega]; exact HY.out.2.2.2)
      cases jb with
      | false =>
       have HEND : Hid (EqIn2 w one F0 G0 (total2 M + f.cnt) f g P b o c b' o' c' r'.len (.slice va L2.length vc2) (.int .i64 ((i + 1 : Nat) : Int)) w6) := Lib.hid (by
        obtain ⟨q1, q2, q3, q4, q5⟩ := HQ2.out
        obtain ⟨q0, q8, q9⟩ := HF6.out
        obtain ⟨⟨e1, e2⟩, e3, e4, e5⟩ := HLG.out
        exact ⟨cl3, E3, L2, va, vc2, xs2, i + 1, df.app (.cons k' n' s' lf .nil), dg.app (.cons k' n' s' l4 .nil), r', r4, rfl, rfl, rfl, by omega, HGL.out, q3, by omega, Lib.hid q0, Lib.hid ⟨HZ.out.1, HZ.out.2, HP6.out.2, HP6.out.1, q5⟩,
         Lib.hid ⟨⟨e1.join HDN.out.1 HDN.out.2 HJC.out (fun _ h => h) (fun h => by cases h), e2⟩, eqK_snoc (.inr ⟨_, _, HDN.out.1, HDN.out.2, HJC.out.2.1⟩) df dg (e3.coarse HJC.out.1), by rw [F.app_assoc]; exact e4, by rw [F.app_assoc]; exact e5⟩, q8.1, q8.2⟩)
       go_wp2_with fail
       go_roundg r'.len
       case measure =>
        have := HQ.out.1
        have := HQ2.out.1
        omega
       case rel => exact HEND.out
      | true =>
       go_wp2_with fail
       have HF7 := Lib.hid (HF6.out.below (Below.refl w6.heap.size w6).drew)
       have hS0 : (World.drew w6).cell? ⟨b, o + i * 4 + 3, none⟩ = some (.slice (some ⟨bx, ox, none⟩) m c1) ∧ (World.drew w6).cell? ⟨b', o' + i * 4 + 3, none⟩ = some (.slice (some ⟨by', oy, none⟩) m c2) := ⟨HF7.out.2.2.1.2.2.2, HF7.out.2.2.2.2.2.2⟩
       have HP7 : Hid (P < (World.drew w6).heap.size) := HP6.out.1 |> Lib.hid
       refine wp_region_held (S := fun W => W.cell? ⟨b, o + i * 4 + 3, none⟩ = some (.slice (some ⟨bx, ox, none⟩) m c1) ∧ W.cell? ⟨b', o' + i * 4 + 3, none⟩ = some (.slice (some ⟨by', oy, none⟩) m c2)) (by kernel_rfl) ?_
       change wpAnyH _ _ _ _ _ _ _ _ (World.drew _)
       clear HF6
       generalize World.drew w6 = W7 at *
       refine tq 0 (.slice va L2.length vc2) rfl ?_ hS0 ?_
       ·intro w' ⟨s0, s1⟩; go_simp
       refine tq 1 (.pointer (some ⟨b, o + i * 4, none⟩)) rfl ?_ hS0 ?_
       ·intro w' ⟨s0, s1⟩; go_simp
       refine tq 2 (.pointer (some ⟨b, o + i * 4, none⟩)) rfl ?_ hS0 ?_
       ·intro w' ⟨s0, s1⟩; go_simp
       refine tq 3 (.pointer (some ⟨b, o + i * 4 + 3, none⟩)) rfl ?_ hS0 ?_
       ·intro w' ⟨s0, s1⟩; go_simp
       refine tq 4 (.slice (some ⟨bx, ox, none⟩) m c1) rfl ?_ hS0 ?_
       ·intro w' ⟨s0, s1⟩; go_simp
       refine tq 5 (.pointer (some ⟨b', o' + i * 4, none⟩)) rfl ?_ hS0 ?_
       ·intro w' ⟨s0, s1⟩; go_simp
       refine tq 6 (.pointer (some ⟨b', o' + i * 4, none⟩)) rfl ?_ hS0 ?_
       ·intro w' ⟨s0, s1⟩; go_simp
       refine tq 7 (.pointer (some ⟨b', o' + i * 4 + 3, none⟩)) rfl ?_ hS0 ?_
       ·intro w' ⟨s0, s1⟩; go_simp
       refine tq 8 (.slice (some ⟨by', oy, none⟩) m c2) rfl ?_ hS0 ?_
       ·intro w' ⟨s0, s1⟩; go_simp
       refine tq 9 (.agg #[.slice (some ⟨bx, ox, none⟩) m c1, .slice (some ⟨by', oy, none⟩) m c2]) rfl ?_ hS0 ?_
       ·intro w' ⟨s0, s1⟩; go_simp
       refine wpAnyH_ready (rs := [10]) (by kernel_rfl) (by simp) ?_
       refine AllReadyH.cons rfl (fun K hK => ?_) AllReadyH.nil
       clear hS0
       go_simp
       have HB8 : Hid (Below W7.heap.size W7 (W7.alloc (.cells #[.slice (some ⟨bx, ox, none⟩) m c1, .slice (some ⟨by', oy, none⟩) m c2] 184))) := Lib.hid ((Below.refl _ _).alloc (Nat.le_refl _) _)
       refine hK.out _ _ ⟨(HF7.out.below HB8.out).2.2.1.2.2.2, (HF7.out.below HB8.out).2.2.2.2.2.2⟩ (fun _ => ?_)
       clear hK
       refine wpAnyH_ready (rs := [11]) (by kernel_rfl) (by simp) ?_
       refine AllReadyH.cons rfl (fun K hK => ?_) AllReadyH.nil
       rw [if_pos (by kernel_rfl)]
       refine op_append_at (.tmp 110) (.tmp 120) 185 rfl (w.heap.size + 5) 184 i1 _ 2 48 Tryz.underlying185 hi1 hy0 hy1 hy2 rfl (by decide) (.slice va L2.length vc2) L2.length xs2 rfl (HF7.out.below HB8.out).1.1 ⟨W7.heap.size, 0, none⟩ 1 1 [.slice (some ⟨bx, ox, none⟩) m c1, .slice (some ⟨by', oy, none⟩) m c2] rfl rfl (World.news_of_block (cs := #[.slice (some ⟨bx, ox, none⟩) m c1, .slice (some ⟨by', oy, none⟩) m c2]) (heap_alloc_new W7 _)) (fun u hu => (by simp at hu; rcases hu with rfl | rfl <;> rfl)) (by unfold maxLen; omega) (by omega) (by have := HF7.out.1.2.2.2.2.size; have := HS1.out.2.1; have := HB8.out.size; omega) ?_
       intro v' w9 g1 g2 g3
       obtain ⟨va', vc', rfl⟩ := owns_shape4 g1
       have HM9 := Lib.hid (by
        have h := HF7.out
        have e := HT.out.2.2.2
        rw [← e] at h g1
        exact EqF2.more h HB8.out HP6.out.2 HP7.out HT.out.1 HT.out.2.1 ⟨HT.out.2.2.1, HD4.out⟩ HS1.out.2.1 g1 g2 g3)
       have hb9 : w9.heap[b]? = W7.heap[b]? := by
        have h := HF7.out
        rw [g2.block b (Nat.lt_of_lt_of_le h.2.2.1.lt HB8.out.size) (fun e => by
         have h8 := owns_base h.1.1 b (by first | exact e | exact e.symm)
         have := HBB.out.1
         omega)]
        exact HB8.out.block b h.2.2.1.lt
       have hb9' : w9.heap[b']? = W7.heap[b']? := by
        have h := HF7.out
        rw [g2.block b' (Nat.lt_of_lt_of_le h.2.2.2.lt HB8.out.size) (fun e => by
         have h8 := owns_base h.1.1 b' (by first | exact e | exact e.symm)
         have := HBB.out.2
         omega)]
        exact HB8.out.block b' h.2.2.2.lt
       have hS9 : w9.cell? ⟨b, o + i * 4 + 3, none⟩ = some (.slice (some ⟨bx, ox, none⟩) m c1) ∧ w9.cell? ⟨b', o' + i * 4 + 3, none⟩ = some (.slice (some ⟨by', oy, none⟩) m c2) := ⟨(HF7.out.2.2.1.to hb9).2.2.2, (HF7.out.2.2.2.to hb9').2.2.2⟩
       clear g1 g2 g3 hb9 hb9'
       refine hK.out _ _ hS9 (fun _ => ?_)
       clear hK
       refine wpAnyH_ready (rs := [12]) (by kernel_rfl) (by simp) ?_
       refine AllReadyH.cons rfl (fun K hK => ?_) AllReadyH.nil
       go_simp
       refine hK.out _ _ hS9 (fun _ => ?_)
       clear hK hS9
       refine wpAnyH_done (by kernel_rfl) ?_ _
       have HEND : Hid (EqIn2 w one F0 G0 (total2 M + f.cnt) f g P b o c b' o' c' r'.len (.slice va' (L2.length + 1) vc') (.int .i64 ((i + 1 : Nat) : Int)) w9) := Lib.hid (by
        obtain ⟨q1, q2, q3, q4, q5⟩ := HQ2.out
        obtain ⟨h1, h2, h3, h4, h5⟩ := HM9.out
        obtain ⟨⟨e1, e2⟩, e3, e4, e5⟩ := HLG.out
        have hl : (L2 ++ [(lf, l4)]).length = L2.length + 1 := by rw [List.length_append]; rfl
        have ht : total2 (L2 ++ [(lf, l4)]) = total2 L2 + lf.cnt := by rw [total2_app]; rfl
        have hc := F.len_le_cnt lf
        have h31 := HT.out.2.2.1
        refine ⟨cl3, E3, L2 ++ [(lf, l4)], va', vc', xs2 ++ [.slice (some ⟨bx, ox, none⟩) lf.len c1, .slice (some ⟨by', oy, none⟩) lf.len c2], i + 1, df.app (.cons k' n' s' lf .nil), dg.app (.cons k' n' s' l4 .nil), r', r4, by rw [hl], rfl, rfl, by omega, HGL.out, by omega, by omega, Lib.hid h1, Lib.hid ⟨HZ.out.1, HZ.out.2, by rw [hl]; exact h2, h3, q5⟩,
         Lib.hid ⟨⟨e1.join HDN.out.1 HDN.out.2 HJC.out (fun e he => by
          rcases List.mem_append.1 he with h | h
          ·exact List.mem_append_left _ (List.mem_append_left _ h)
          ·exact List.mem_append_right _ h) (fun _ => List.mem_append_left _ (List.mem_append_right _ List.mem_cons_self)), fun h0 e he => ?_⟩, eqK_snoc (.inr ⟨_, _, HDN.out.1, HDN.out.2, HJC.out.2.1⟩) df dg (e3.coarse HJC.out.1), by rw [F.app_assoc]; exact e4, by rw [F.app_assoc]; exact e5⟩, h4, h5⟩
        rcases List.mem_append.1 he with h | h
        ·rcases List.mem_append.1 h with h | h
         ·exact e2 h0 e (List.mem_append_left _ h)
         ·obtain rfl := List.mem_singleton.1 h
          by_cases hll : lf = l4
          ·exact hll
          ·exact absurd h0 (HNE.out (fun hh => hll hh.2.2.2))
        ·exact e2 h0 e (List.mem_append_right _ h))
       go_wp2_with fail
       go_roundg r'.len
       case measure =>
        have := HQ.out.1
        have := HQ2.out.1
        omega
       case rel => exact HEND.out
end Go.Proofs.YtlpgphiccjkenaaGreatDoor
