/-
 Contracts of the program, and what they rest on.
-/
import Derived.Test.YtlpgphiccjkenaaGreatDoorProg
import Derived.WalkKit
import Derived.WalkSpells
import Derived.WalkLawsBesides
import Derived.Lib.Hide
import Derived.Maps.AppendAt
import Derived.Lib.SliceRun
import Derived.Lib.QuietBelow
import Derived.Deep.LoopGhost
import Derived.Test.YtlpgphiccjkenaaGreatDoorShelf
import Derived.LoopTactic
import Derived.Deep.RegionWith
import Derived.Test.YtlpgphiccjkenaaGreatDoorM02
import Derived.BigRegion
import Derived.Lib.AtoiErrMem
import Derived.Lib.AppendIntMem
import Derived.Lib.Bytealg
set_option maxRecDepth 100000
set_option maxHeartbeats 16000000
namespace Go.Proofs.YtlpgphiccjkenaaGreatDoor
open Go.RowKit
structure Ve where
 ver : Int
 gone : Bool
 body : ByteArray
def Ve.zero : Ve := ⟨0, false, ⟨#[]⟩⟩
instance : Inhabited Ve := ⟨Ve.zero⟩
def Ve.cells (v : Ve) : List Value := [.int .i64 v.ver, .bool v.gone, .string v.body]
def veagg (v : Ve) : Value := .agg #[.int .i64 v.ver, .bool v.gone, .string v.body]
def vcells : List Ve → List Value
 | [] => []
 | v :: r => .int .i64 v.ver :: .bool v.gone :: .string v.body :: vcells r
theorem vcells_append (l m : List Ve) : vcells (l ++ m) = vcells l ++ vcells m := by
 induction l with
 | nil => rfl
 | cons v r ih => simp [vcells, ih]
theorem vcells_length (l : List Ve) : (vcells l).length = l.length * 3 := by
 induction l with
 | nil => rfl
 | cons v r ih => simp only [vcells, List.length_cons, ih]; omega
theorem vcells_one (l : List Ve) : ∀ u ∈ vcells l, u.oneCell' = true := by
 induction l with
 | nil => intro u h; cases h
 | cons e r ih =>
  intro u h
  simp only [vcells, List.mem_cons] at h
  rcases h with rfl | rfl | rfl | h
  ·rfl
  ·rfl
  ·rfl
  ·exact ih u h
theorem vcells_get : ∀ (l : List Ve) (j : Nat) (v : Ve), l[j]? = some v → (vcells l)[j * 3]? = some (.int .i64 v.ver) ∧ (vcells l)[j * 3 + 1]? = some (.bool v.gone) ∧ (vcells l)[j * 3 + 2]? = some (.string v.body)
 | [], j, v, h => by simp at h
 | x :: r, 0, v, h => by
  simp at h
  subst h
  exact ⟨rfl, rfl, rfl⟩
 | x :: r, j + 1, v, h => by
  have := vcells_get r j v (by simpa using h)
  rw [show (j + 1) * 3 = (j * 3) + 1 + 1 + 1 by omega]
  exact this
theorem vcells_of {l : List Ve} {P : Nat → Value → Prop} (h : ∀ j v, l[j]? = some v → P (j * 3) (.int .i64 v.ver) ∧ P (j * 3 + 1) (.bool v.gone) ∧ P (j * 3 + 2) (.string v.body)) : ∀ j u, (vcells l)[j]? = some u → P j u := by
 intro j u hu
 have hl : j < (vcells l).length := (List.getElem?_eq_some_iff.1 hu).1
 rw [vcells_length] at hl
 have hq : j / 3 < l.length := by omega
 have hv := vcells_get l (j / 3) l[j / 3] (List.getElem?_eq_getElem hq)
 have hp := h (j / 3) l[j / 3] (List.getElem?_eq_getElem hq)
 have hm : j % 3 < 3 := Nat.mod_lt _ (by decide)
 have hj : j / 3 * 3 + j % 3 = j := by omega
 rcases Nat.lt_or_ge (j % 3) 1 with h0 | h0
 ·rw [show j = j / 3 * 3 by omega] at hu ⊢
  rw [hv.1] at hu
  cases hu
  exact hp.1
 ·rcases Nat.lt_or_ge (j % 3) 2 with h1 | h1
  ·rw [show j = j / 3 * 3 + 1 by omega] at hu ⊢
   rw [hv.2.1] at hu
   cases hu
   exact hp.2.1
  ·rw [show j = j / 3 * 3 + 2 by omega] at hu ⊢
   rw [hv.2.2] at hu
   cases hu
   exact hp.2.2
def VeAt (w : World) (g o : Nat) (l : List Ve) : Prop :=
 ∀ j v, l[j]? = some v → w.cell? ⟨g, o + j * 3, none⟩ = some (.int .i64 v.ver) ∧ w.cell? ⟨g, o + j * 3 + 1, none⟩ = some (.bool v.gone) ∧ w.cell? ⟨g, o + j * 3 + 2, none⟩ = some (.string v.body)
theorem VeAt.cells {w : World} {g o : Nat} {l : List Ve} (h : VeAt w g o l) : ∀ j u, (vcells l)[j]? = some u → w.cell? ⟨g, o + j, none⟩ = some u :=
 vcells_of (P := fun j u => w.cell? ⟨g, o + j, none⟩ = some u) (fun j v hv => h j v hv)
theorem VeAt.of_cells {w : World} {g o : Nat} {l : List Ve} (h : ∀ j u, (vcells l)[j]? = some u → w.cell? ⟨g, o + j, none⟩ = some u) : VeAt w g o l := fun j v hv =>
 have hc := vcells_get l j v hv
 ⟨h _ _ hc.1, h _ _ hc.2.1, h _ _ hc.2.2⟩
theorem VeAt.kept {w w' : World} {g o : Nat} {l : List Ve} (h : VeAt w g o l) (e : w'.heap[g]? = w.heap[g]?) : VeAt w' g o l := by
 intro j v hv
 have c (i : Nat) : w'.cell? ⟨g, i, none⟩ = w.cell? ⟨g, i, none⟩ := World.cell?_of_block (a := ⟨g, i, none⟩) e
 rw [c, c, c]
 exact h j v hv
def VsAt (w : World) (v : Value) (l : List Ve) : Prop :=
 (v = .slice none 0 0 ∧ l = []) ∨ ∃ g o cap, v = .slice (some ⟨g, o, none⟩) l.length cap ∧ l.length ≤ cap ∧ cap ≤ maxLen ∧ g < w.heap.size ∧ VeAt w g o l
theorem VsAt.kept {w w' : World} {v : Value} {l : List Ve} (h : VsAt w v l) (hs : w.heap.size ≤ w'.heap.size) (hk : ∀ g, v.ownBlock = some g → w'.heap[g]? = w.heap[g]?) : VsAt w' v l := by
 rcases h with h | ⟨g, o, cap, rfl, h1, h2, h3, h4⟩
 ·exact .inl h
 ·exact .inr ⟨g, o, cap, rfl, h1, h2, by omega, h4.kept (hk g rfl)⟩
theorem VsAt.below {w w' : World} {v : Value} {l : List Ve} (h : VsAt w v l) (hb : Below w.heap.size w w') : VsAt w' v l := by
 rcases h with h | ⟨g, o, cap, rfl, h1, h2, h3, h4⟩
 ·exact .inl h
 ·exact .inr ⟨g, o, cap, rfl, h1, h2, Nat.lt_of_lt_of_le h3 hb.size, h4.kept (hb.block g h3)⟩
theorem VsAt.shape {w : World} {v : Value} {l : List Ve} (h : VsAt w v l) : ∃ ad cap, v = .slice ad l.length cap ∧ l.length ≤ cap := by
 rcases h with ⟨rfl, rfl⟩ | ⟨g, o, cap, rfl, h1, _⟩
 ·exact ⟨_, _, rfl, Nat.le_refl _⟩
 ·exact ⟨_, _, rfl, h1⟩
def VOwn (w : World) (B : Nat) (v : Value) (l : List Ve) : Prop := w.ownsRow B 55 3 v l.length (vcells l)
theorem VOwn.at {w : World} {B : Nat} {v : Value} {l : List Ve} (h : VOwn w B v l) : VsAt w v l := by
 rcases h.2 with ⟨rfl, h0⟩ | ⟨g, cap, cur, rfl, hb, hg, h1, h2, h3, h4⟩
 ·exact .inl ⟨rfl, List.length_eq_zero_iff.1 h0⟩
 ·have hlt : g < w.heap.size := by
   rcases Nat.lt_or_ge g w.heap.size with h | h
   ·exact h
   ·rw [Array.getElem?_eq_none h] at hg
    cases hg
  refine .inr ⟨g, 0, cap, rfl, h1, h2, hlt, VeAt.of_cells fun j u hu => ?_⟩
  have hc := World.ownsRow.cells h (g := g) rfl
  have := hc j u hu
  rw [Addr.add_lit] at this
  exact this
theorem VOwn.shape {w : World} {B : Nat} {v : Value} {l : List Ve} (h : VOwn w B v l) : ∃ ad cap, v = .slice ad l.length cap := by
 obtain ⟨ad, cap, h, _⟩ := h.at.shape
 exact ⟨ad, cap, h⟩
theorem VOwn.lt {w : World} {B : Nat} {v : Value} {l : List Ve} (h : VOwn w B v l) {g : Nat} (hg : v.ownBlock = some g) : B ≤ g ∧ g < w.heap.size := by
 rcases h.2 with ⟨rfl, _⟩ | ⟨g', cap, cur, rfl, hb, hh, _⟩
 ·cases hg
 ·cases hg
  refine ⟨hb, ?_⟩
  rcases Nat.lt_or_ge g' w.heap.size with h | h
  ·exact h
  ·rw [Array.getElem?_eq_none h] at hh
   cases hh
theorem VOwn.kept {w w' : World} {B : Nat} {v : Value} {l : List Ve} (h : VOwn w B v l) (hk : ∀ g, v.ownBlock = some g → w'.heap[g]? = w.heap[g]?) : VOwn w' B v l := by
 obtain ⟨h1, h2⟩ := h
 refine ⟨h1, ?_⟩
 rcases h2 with h2 | ⟨g, cap, cur, hv, hg, hh, r⟩
 ·exact .inl h2
 ·exact .inr ⟨g, cap, cur, hv, hg, by rw [hk g (by rw [hv]; rfl)]; exact hh, r⟩
theorem VOwn.below {w w' : World} {B : Nat} {v : Value} {l : List Ve} (h : VOwn w B v l) (hb : Below w.heap.size w w') : VOwn w' B v l := h.kept fun g hg => hb.block g (h.lt hg).2
theorem VOwn.mono {w : World} {B B' : Nat} {v : Value} {l : List Ve} (h : VOwn w B v l) (hB : B' ≤ B) : VOwn w B' v l := by
 obtain ⟨h1, h2⟩ := h
 refine ⟨h1, ?_⟩
 rcases h2 with h2 | ⟨g, cap, cur, hv, hg, r⟩
 ·exact .inl h2
 ·exact .inr ⟨g, cap, cur, hv, by omega, r⟩
def EC (w : World) (b : Nat) (key : ByteArray) (v : Value) : Prop :=
 (w.cell? ⟨b, 0, none⟩ = some (.string key) ∧ w.cell? ⟨b, 1, none⟩ = some v) ∧ w.frozen? ⟨b, 0, none⟩ = false ∧ w.frozen? ⟨b, 1, none⟩ = false
theorem EC.lt {w : World} {b : Nat} {key : ByteArray} {v : Value} (h : EC w b key v) : b < w.heap.size := World.block_lt_of_cell? w _ h.1.1
theorem EC.kept {w w' : World} {b : Nat} {key : ByteArray} {v : Value} (h : EC w b key v) (e : w'.heap[b]? = w.heap[b]?) : EC w' b key v := by
 obtain ⟨⟨h0, h1⟩, f0, f1⟩ := h
 have c (o : Nat) : w'.cell? ⟨b, o, none⟩ = w.cell? ⟨b, o, none⟩ := World.cell?_of_block (a := ⟨b, o, none⟩) e
 have f (o : Nat) : w'.frozen? ⟨b, o, none⟩ = w.frozen? ⟨b, o, none⟩ := World.frozen?_of_block (a := ⟨b, o, none⟩) e
 exact ⟨⟨by rw [c]; exact h0, by rw [c]; exact h1⟩, by rw [f]; exact f0, by rw [f]; exact f1⟩
theorem EC.below {w w' : World} {b : Nat} {key : ByteArray} {v : Value} (h : EC w b key v) (hb : Below w.heap.size w w') : EC w' b key v := h.kept (hb.block b h.lt)
theorem EC.new (w : World) (key : ByteArray) (ad : Option Addr) (n c : Nat) (t : TypeId) : EC (w.alloc (.cells #[.string key, .slice ad n c] t)) w.heap.size key (.slice ad n c) := by
 refine ⟨⟨?_, ?_⟩, ?_, ?_⟩ <;> go_simp
theorem EC.alloc {w : World} {b : Nat} {key : ByteArray} {v : Value} (h : EC w b key v) (o : Obj) : EC (w.alloc o) b key v := h.below ((Below.refl _ w).alloc (Nat.le_refl _) _)
def VC3 (w : World) (b : Nat) (v : Ve) : Prop :=
 (w.cell? ⟨b, 0, none⟩ = some (.int .i64 v.ver) ∧ w.cell? ⟨b, 1, none⟩ = some (.bool v.gone) ∧ w.cell? ⟨b, 2, none⟩ = some (.string v.body)) ∧ w.frozen? ⟨b, 0, none⟩ = false ∧ w.frozen? ⟨b, 1, none⟩ = false ∧ w.frozen? ⟨b, 2, none⟩ = false
theorem VC3.lt {w : World} {b : Nat} {v : Ve} (h : VC3 w b v) : b < w.heap.size := World.block_lt_of_cell? w _ h.1.1
theorem VC3.kept {w w' : World} {b : Nat} {v : Ve} (h : VC3 w b v) (e : w'.heap[b]? = w.heap[b]?) : VC3 w' b v := by
 obtain ⟨⟨h0, h1, h2⟩, f0, f1, f2⟩ := h
 have c (o : Nat) : w'.cell? ⟨b, o, none⟩ = w.cell? ⟨b, o, none⟩ := World.cell?_of_block (a := ⟨b, o, none⟩) e
 have f (o : Nat) : w'.frozen? ⟨b, o, none⟩ = w.frozen? ⟨b, o, none⟩ := World.frozen?_of_block (a := ⟨b, o, none⟩) e
 exact ⟨⟨by rw [c]; exact h0, by rw [c]; exact h1, by rw [c]; exact h2⟩, by rw [f]; exact f0, by rw [f]; exact f1, by rw [f]; exact f2⟩
theorem VC3.below {w w' : World} {b : Nat} {v : Ve} (h : VC3 w b v) (hb : Below w.heap.size w w') : VC3 w' b v := h.kept (hb.block b h.lt)
theorem VC3.new (w : World) (v : Ve) (t : TypeId) : VC3 (w.alloc (.cells #[.int .i64 v.ver, .bool v.gone, .string v.body] t)) w.heap.size v := by
 refine ⟨⟨?_, ?_, ?_⟩, ?_, ?_, ?_⟩ <;> go_simp
theorem infoVer : (Tryz.prog.info? 55).map (fun i => (i.zero, i.size, i.bytes)) = some (some (.agg #[.int .i64 0, .bool false, .string ⟨#[]⟩]), 3, 32) := by kernel_rfl
theorem info_v : ∃ i0 : TypeInfo, Tryz.prog.info? 55 = some i0 ∧ i0.zero = some (.agg #[.int .i64 0, .bool false, .string ⟨#[]⟩]) ∧ i0.size = 3 ∧ i0.bytes = 32 := by
 have h := infoVer
 cases hi : Tryz.prog.info? 55 with
 | none => rw [hi] at h; cases h
 | some i =>
  rw [hi] at h
  simp only [Option.map_some, Option.some.injEq, Prod.mk.injEq] at h
  exact ⟨i, rfl, h⟩
def nowE (l : List Ve) : Ve × Bool := match l.getLast? with | none => (Ve.zero, false) | some v => (v, !v.gone)
def placeE (l : List Ve) (n : Int) : Option Nat := l.findIdx? fun v => v.ver == n
def atE (l : List Ve) (n : Int) : Ve × Bool := match placeE l n with | none => (Ve.zero, false) | some k => (l.getD k Ve.zero, true)
def mayAdd (l : List Ve) (n : Int) : Bool := decide (l.length < 12) && (match l.getLast? with | none => true | some v => decide (v.ver < n))
def addE (l : List Ve) (v : Ve) : List Ve × Bool := if mayAdd l v.ver then (l ++ [v], true) else (l, false)
def purgeE (l : List Ve) (n : Int) : List Ve × Bool := match placeE l n with | none => (l, false) | some k => (l.take k ++ l.drop (k + 1), true)
theorem placeE_lt {l : List Ve} {n : Int} {k : Nat} (h : placeE l n = some k) : k < l.length := (List.findIdx?_eq_some_iff_getElem.1 h).1
end Go.Proofs.YtlpgphiccjkenaaGreatDoor
namespace Go.Proofs.YtlpgphiccjkenaaGreatDoor
open Go.Shelf Go.RowKit
theorem vclone_p (v : Value) (l : List Ve) (w : World) (h : VsAt w v l) (hn : l.length ≤ 1000000) :
  Calls Tryz.prog 118 #[v] w fun e w' => ∃ ad' cap', e = .returned (.slice ad' l.length cap') ∧ VOwn w' w.heap.size (.slice ad' l.length cap') l ∧ Below w.heap.size w w' := by
 obtain ⟨i0, hi, hz0, hz1, hz2⟩ := info_v
 have q22 : ∀ (w : World) (a : Option Addr) (n c n' c' : Nat), (binOp .eql 43 (.slice a n c) (.slice none n' c')).run Tryz.prog w = .ok (.bool a.isNone) w := fun w a n c n' c' => Lib.run_eql_slice_nil w _ _ a n c n' c' Tryz.underlying43
 rcases h with ⟨rfl, rfl⟩ | ⟨g, o, cap, rfl, h1, h2, h3, h4⟩
 ·go_enter Tryz.func118, Tryz.ntmps118
  go_wp2
  go_ret
  exact ⟨none, 0, rfl, World.ownsRow_nil _ _ _ _, Below.refl _ _⟩
 ·have A : Aside (VeAt w g o l) := h4
  have hlen := vcells_length l
  have hone := vcells_one l
  clear h4
  go_enter Tryz.func118, Tryz.ntmps118
  go_wp2_with (at_builtin; refine wpList_append_own _ rfl _ _ 43 rfl w.heap.size 55 i0 _ 3 32 Tryz.underlying43 hi hz0 hz1 hz2 rfl (by decide) _ _ _ rfl (World.ownsRow_made w #[] 0 (Nat.le_refl _) (Nat.zero_le _) (by simp)) ⟨g, o, none⟩ l.length cap (vcells l) rfl ?qc1 ?qc2 ?qc3 ?qc4 ?qc5 ?qc6 ?_)
  case qc1 => exact hlen
  case qc2 =>
   intro j u hj
   rw [Addr.add_lit]
   exact Lib.cell?_alloc_some _ (A.out.cells j u hj)
  case qc3 => exact hone
  case qc4 => rw [Nat.zero_add]; unfold maxLen; omega
  case qc5 => rw [Nat.zero_add]; omega
  case qc6 => simp
  intro v' w1 hown hgrow hnil
  go_wp2
  go_ret
  have hown' : VOwn w1 w.heap.size v' l := by simpa [VOwn] using hown
  obtain ⟨ad', cap', rfl⟩ := hown'.shape
  refine ⟨ad', cap', rfl, hown', ?_⟩
  exact ((Below.refl _ w).alloc (Nat.le_refl _) _).grown hgrow (by simp) (by intro k hk; simp [Value.ownBlock] at hk; omega)
theorem same_ver_p (n : Int) (B : Nat) (w : World) (hB : B < w.heap.size) (hcell : w.cell? ⟨B, 0, none⟩ = some (.int .i64 n)) (W : World) (x : Ve) (hb : Below w.heap.size w W) :
  Calls Tryz.prog 171 #[veagg x, .pointer (some ⟨B, 0, none⟩)] W fun e w' => e = .returned (.bool (x.ver == n)) ∧ Below w.heap.size w w' := by
 have hc : W.cell? ⟨B, 0, none⟩ = some (.int .i64 n) := (hb.cell (p := ⟨B, 0, none⟩) hB).trans hcell
 have hBW : B < W.heap.size := Nat.lt_of_lt_of_le hB hb.size
 have hne : B ≠ W.heap.size := by omega
 have hne' : W.heap.size ≠ B := by omega
 unfold veagg
 go_enter Tryz.func171, Tryz.ntmps171
 go_wp2
 all_goals (go_ret; exact ⟨by simp_all, hb.alloc hb.size _⟩)
def placeI (l : List Ve) (n : Int) : Int := match placeE l n with | some k => (k : Int) | none => -1
theorem place_hit {l : List Ve} {n : Int} {k : Nat} {x : Ve} (hx : l[k]? = some x) (hn : x.ver = n) (hb : ∀ j y, j < k → l[j]? = some y → y.ver ≠ n) : placeE l n = some k := by
 have hk : k < l.length := (List.getElem?_eq_some_iff.1 hx).1
 refine List.findIdx?_eq_some_iff_getElem.2 ⟨hk, ?_, fun j hj => ?_⟩
 ·have : l[k] = x := (List.getElem?_eq_some_iff.1 hx).2
  rw [this]; simpa using hn
 ·have := hb j l[j] hj (List.getElem?_eq_getElem (by omega))
  simpa using this
theorem place_miss {l : List Ve} {n : Int} (hb : ∀ j y, j < l.length → l[j]? = some y → y.ver ≠ n) : placeE l n = none := by
 unfold placeE
 rw [List.findIdx?_eq_none_iff]
 intro x hx
 obtain ⟨j, hj, rfl⟩ := List.getElem_of_mem hx
 have := hb j l[j] hj (List.getElem?_eq_getElem hj)
 simpa using this
theorem index_p (v : Value) (l : List Ve) (n : Int) (B : Nat) (w : World) (h : VsAt w v l) (hn : l.length ≤ 1000000) (hB : B < w.heap.size) (hcell : w.cell? ⟨B, 0, none⟩ = some (.int .i64 n)) :
  Calls Tryz.prog 170 #[v, .func (.func 171) #[] #[.pointer (some ⟨B, 0, none⟩)]] w fun e w' => e = .returned (.int .i64 (placeI l n)) ∧ Below w.heap.size w w' := by
 have eg : ∀ args w, (callFunc 171 args).run Tryz.prog w = .ok (.enter 171 args) w := enters_of Tryz.func171 (by kernel_rfl) rfl
 have HP := Lib.hid (same_ver_p n B w hB hcell)
 clear hcell
 obtain ⟨ad, cap, hv, hcap⟩ := h.shape
 have HV : Hid (∀ W : World, Below w.heap.size w W → ∀ (kk : Nat) (x : Ve), l[kk]? = some x → ∃ g o, ad = some ⟨g, o, none⟩ ∧ W.cell? ⟨g, o + kk * 3, none⟩ = some (.int .i64 x.ver) ∧ W.cell? ⟨g, o + kk * 3 + 1, none⟩ = some (.bool x.gone) ∧ W.cell? ⟨g, o + kk * 3 + 2, none⟩ = some (.string x.body)) := Lib.hid (fun W hW kk x hx => by
  rcases h.below hW with ⟨_, h0⟩ | ⟨g, o, cap', e, _, _, h3, h4⟩
  ·rw [h0] at hx
   simp at hx
  ·rw [hv] at e
   simp only [Value.slice.injEq] at e
   exact ⟨g, o, e.1, h4 kk x hx⟩)
 subst hv
 obtain ⟨R, hR⟩ : ∃ R, placeI l n = R := ⟨_, rfl⟩
 rw [hR]
 have HR := Lib.hid hR
 clear hR h
 go_enter Tryz.func170, Tryz.ntmps170
 go_wp2
 go_loopg [5, 8] l.length (fun gg _ s8 wr => ∃ kk : Nat, kk ≤ l.length ∧ l.length - kk ≤ gg ∧ s8 = .int .i64 kk ∧ Hid (Below w.heap.size w wr) ∧ Hid (∀ j y, j < kk → l[j]? = some y → y.ver ≠ n))
 case atStart => exact ⟨0, Nat.zero_le _, by omega, rfl, Lib.hid (Below.refl _ w), Lib.hid (fun j y hj => absurd hj (Nat.not_lt_zero _))⟩
 case round =>
  obtain ⟨kk, hkk, hg, rfl, BW, A⟩ := hrel
  by_cases hlt : kk < l.length
  ·have hltz : (kk : Int) < (l.length : Int) := by omega
   obtain ⟨x, hx⟩ : ∃ x, l[kk]? = some x := ⟨_, List.getElem?_eq_getElem hlt⟩
   obtain ⟨g, o, rfl, c0, c1, c2⟩ := HV.out wr BW.out kk x hx
   have HX := Lib.hid hx
   have hcall := HP.out wr x BW.out
   unfold veagg at hcall
   clear hx
   cases hq : (x.ver == n) with
   | true =>
    have hq' : x.ver = n := by simpa using hq
    rw [hq] at hcall
    obtain rfl : R = (kk : Int) := by
     rw [← HR.out]; unfold placeI; rw [place_hit HX.out hq' A.out]
    have HC := Lib.hid hcall
    clear hcall hq hq'
    go_wp2_with fail
    refine HC.out.mono ?_
    rintro _ w' ⟨rfl, hb'⟩
    go_wp2_with fail
    go_ret
    exact ⟨rfl, hb'⟩
   | false =>
    have hq' : x.ver ≠ n := by simpa using hq
    rw [hq] at hcall
    have HN : Hid (∀ j y, j < kk + 1 → l[j]? = some y → y.ver ≠ n) := Lib.hid (fun j y hj hy => by
     by_cases e : j = kk
     ·subst e
      rw [HX.out] at hy
      cases hy
      exact hq'
     ·exact A.out j y (by omega) hy)
    have HC := Lib.hid hcall
    clear hcall hq hq'
    go_wp2_with fail
    refine HC.out.mono ?_
    rintro _ w' ⟨rfl, hb'⟩
    go_wp2_with fail
    go_roundg (l.length - (kk + 1))
    case measure => omega
    case rel => exact ⟨kk + 1, by omega, by omega, by go_num, Lib.hid hb', HN⟩
  ·have hltz : ¬ (kk : Int) < (l.length : Int) := by omega
   obtain rfl : R = -1 := by
    rw [← HR.out]; unfold placeI; rw [place_miss (fun j y hj => A.out j y (by omega))]
   go_wp2
   go_ret
   exact ⟨rfl, BW.out⟩
theorem tplace_p (key : ByteArray) (v : Value) (l : List Ve) (n : Int) (w : World) (h : VsAt w v l) (hn : l.length ≤ 1000000) :
  Calls Tryz.prog 139 #[.agg #[.string key, v], .int .i64 n] w fun e w' => e = .returned (.int .i64 (placeI l n)) ∧ Below w.heap.size w w' := by
 have hb : Below w.heap.size w ((w.alloc (.cells #[.string key, v] 45)).alloc (.cells #[.int .i64 n] 2)) := ((Below.refl _ w).alloc (Nat.le_refl _) _).alloc (by simp) _
 obtain ⟨ad, cap, rfl, _⟩ := h.shape
 have HI := Lib.hid (index_p _ l n (w.heap.size + 1) _ (h.below hb) hn (by simp) (by go_simp))
 have HB := Lib.hid hb
 clear h hb
 generalize placeI l n = R at *
 go_enter Tryz.func139, Tryz.ntmps139
 go_wp2_with fail
 refine HI.out.mono ?_
 rintro _ w1 ⟨rfl, hb1⟩
 go_wp2_with fail
 go_ret
 exact ⟨rfl, HB.out.trans (hb1.mono HB.out.size)⟩
theorem copied_p (key : ByteArray) (v : Value) (l : List Ve) (w : World) (h : VsAt w v l) (hn : l.length ≤ 1000000) :
  Calls Tryz.prog 157 #[.agg #[.string key, v]] w fun e w' => ∃ ad' cap', e = .returned (.agg #[.string key, .slice ad' l.length cap']) ∧ VOwn w' w.heap.size (.slice ad' l.length cap') l ∧ Below w.heap.size w w' := by
 obtain ⟨ad, cap, rfl, _⟩ := h.shape
 have HC : Hid (∀ W, Below w.heap.size w W → Calls Tryz.prog 118 #[.slice ad l.length cap] W fun e w' => ∃ ad' cap', e = .returned (.slice ad' l.length cap') ∧ VOwn w' W.heap.size (.slice ad' l.length cap') l ∧ Below W.heap.size W w') := Lib.hid (fun W hW => vclone_p _ l W (h.below hW) hn)
 have HB : Hid (Below w.heap.size w ((w.alloc (.cells #[.string key, .slice ad l.length cap] 45)).alloc (.cells #[.string ⟨#[]⟩, .slice none 0 0] 45))) := Lib.hid (((Below.refl _ w).alloc (Nat.le_refl _) _).alloc (by simp) _)
 have h1 : EC ((w.alloc (.cells #[.string key, .slice ad l.length cap] 45)).alloc (.cells #[.string ⟨#[]⟩, .slice none 0 0] 45)) w.heap.size key (.slice ad l.length cap) := (EC.new w key ad l.length cap _).alloc _
 have h2 : EC ((w.alloc (.cells #[.string key, .slice ad l.length cap] 45)).alloc (.cells #[.string ⟨#[]⟩, .slice none 0 0] 45)) (w.heap.size + 1) ⟨#[]⟩ (.slice none 0 0) := by
  have := EC.new (w.alloc (.cells #[.string key, .slice ad l.length cap] 45)) ⟨#[]⟩ none 0 0 45
  simpa using this
 clear h
 go_enter Tryz.func157, Tryz.ntmps157
 go_wp2_with fail
 generalize (w.alloc (.cells #[.string key, .slice ad l.length cap] 45)).alloc (.cells #[.string ⟨#[]⟩, .slice none 0 0] 45) = W at *
 have H1 := Lib.hid h1
 have H2 := Lib.hid h2
 have hs : w.heap.size + 2 ≤ W.heap.size := by have := h2.lt; omega
 obtain ⟨⟨c0, c1⟩, f0, f1⟩ := h1
 go_region_with (go_at_call 118; refine (HC.out _ HB.out.drew).mono ?_; rintro e w1 ⟨ad', cap', rfl, ho, hb⟩; have k1 := (H1.out.kept (w' := W.drew) rfl).below hb; have k2 := (H2.out.kept (w' := W.drew) rfl).below hb; obtain ⟨⟨y0, y1⟩, z0, z1⟩ := k1; obtain ⟨⟨p0, p1⟩, q0, q1⟩ := k2)
 all_goals
  go_wp2_with fail
  have hne : ∀ g, (Value.slice ad' l.length cap').ownBlock = some g → g ≠ w.heap.size + 1 := fun g hg => by have := (ho.lt hg).1; have : W.drew.heap.size = W.heap.size := rfl; omega
  have hB1 : Below w.heap.size w w1 := HB.out.drew.trans (hb.mono HB.out.size)
  have ho' : VOwn ((w1.setCell ⟨w.heap.size + 1, 0, none⟩ (.string key)).setCell ⟨w.heap.size + 1, 1, none⟩ (.slice ad' l.length cap')) w.heap.size (.slice ad' l.length cap') l := (ho.mono (B' := w.heap.size) (by have : W.drew.heap.size = W.heap.size := rfl; omega)).kept (fun g hg => by
   have := hne g hg
   rw [Below.heap_setCell _ _ _ _ (by simpa using this), Below.heap_setCell _ _ _ _ (by simpa using this)])
  have hB2 := (hB1.setCell (p := ⟨w.heap.size + 1, 0, none⟩) (by simp) (.string key)).setCell (p := ⟨w.heap.size + 1, 1, none⟩) (by simp) (.slice ad' l.length cap')
  have t0 : ((w1.setCell ⟨w.heap.size + 1, 0, none⟩ (.string key)).setCell ⟨w.heap.size + 1, 1, none⟩ (.slice ad' l.length cap')).cell? ⟨w.heap.size + 1, 0, none⟩ = some (.string key) := by go_simp
  have t1 : ((w1.setCell ⟨w.heap.size + 1, 0, none⟩ (.string key)).setCell ⟨w.heap.size + 1, 1, none⟩ (.slice ad' l.length cap')).cell? ⟨w.heap.size + 1, 1, none⟩ = some (.slice ad' l.length cap') := by go_simp
  exact bodyPost_ret (v := .agg #[.string key, .slice ad' l.length cap']) (by simp [results, Tryz.results157, go_sem, t0, t1]) rfl ⟨ad', cap', rfl, ho', hB2⟩
end Go.Proofs.YtlpgphiccjkenaaGreatDoor
namespace Go.Proofs.Cpl
def red (p : Int × Int) : Int × Int := (p.1 % 65521, p.2 % 65521)
def cadd (p q : Int × Int) : Int × Int := (p.1 + q.1, p.2 + q.2)
def cmul (p q : Int × Int) : Int × Int := (p.1 * q.1 - p.2 * q.2, p.1 * q.2 + p.2 * q.1)
def gadd (p q : Int × Int) : Int × Int := red (cadd p q)
def gmul (p q : Int × Int) : Int × Int := red (cmul p q)
def Ok (p : Int × Int) : Prop := (0 ≤ p.1 ∧ p.1 ≤ 65520) ∧ (0 ≤ p.2 ∧ p.2 ≤ 65520)
theorem ok_red (p : Int × Int) : Ok (red p) := by unfold Ok red; omega
theorem ok_gadd (p q : Int × Int) : Ok (gadd p q) := ok_red _
theorem ok_gmul (p q : Int × Int) : Ok (gmul p q) := ok_red _
def gon (z : Int × Int) (l : List UInt8) : Int × Int := l.foldl (fun z x => gadd (gmul z (3, 5)) ((x.toNat : Int) + 1, 0)) z
theorem ok_gon {z : Int × Int} (h : Ok z) (l : List UInt8) : Ok (gon z l) := by
 induction l generalizing z with
 | nil => exact h
 | cons x l ih => exact ih (ok_gadd _ _)
theorem gon_append (z : Int × Int) (l m : List UInt8) : gon z (l ++ m) = gon (gon z l) m := List.foldl_append ..
theorem gon_snoc (z : Int × Int) (l : List UInt8) (x : UInt8) : gon z (l ++ [x]) = gadd (gmul (gon z l) (3, 5)) ((x.toNat : Int) + 1, 0) := by
 rw [gon_append]; rfl
end Go.Proofs.Cpl
namespace Go.Proofs.YtlpgphiccjkenaaGreatDoor
open Go.RowKit Go.Proofs.Flo Go.Proofs.Cpl
def At (w : World) (b : Nat) (p : Int × Int) : Prop :=
 (w.cell? ⟨b, 0, none⟩ = some (.int .i64 p.1) ∧ w.cell? ⟨b, 1, none⟩ = some (.int .i64 p.2)) ∧ (w.frozen? ⟨b, 0, none⟩ = false ∧ w.frozen? ⟨b, 1, none⟩ = false) ∧ b < w.heap.size
end Go.Proofs.YtlpgphiccjkenaaGreatDoor
namespace Go.Proofs.YtlpgphiccjkenaaGreatDoor
open Go.RowKit Go.Proofs.Flo Go.Proofs.Cpl
def gc (p : Int × Int) : Value := .complex .f64 (fk 0 p.1) (fk 0 p.2)
theorem mul_gc (p q : Int × Int) (hp : Ok p) (hq : Ok q) (w : World) :
  Calls Tryz.prog 110 #[.complex .f64 (fk 0 p.1) (fk 0 p.2), .complex .f64 (fk 0 q.1) (fk 0 q.2)] w fun e w' => e = .returned (.complex .f64 (fk 0 (gmul p q).1) (fk 0 (gmul p q).2)) ∧ w = w' :=
 mul_gz p.1 p.2 q.1 q.2 hp.1 hp.2 hq.1 hq.2 w
theorem add_gc (p q : Int × Int) (hp : Ok p) (hq : Ok q) (w : World) :
  Calls Tryz.prog 179 #[.complex .f64 (fk 0 p.1) (fk 0 p.2), .complex .f64 (fk 0 q.1) (fk 0 q.2)] w fun e w' => e = .returned (.complex .f64 (fk 0 (gadd p q).1) (fk 0 (gadd p q).2)) ∧ w = w' :=
 add_gz p.1 p.2 q.1 q.2 hp.1 hp.2 hq.1 hq.2 w
theorem may_gc (p : Int × Int) (hp : Ok p) (w : World) :
  Calls Tryz.prog 148 #[.complex .f64 (fk 0 p.1) (fk 0 p.2)] w fun e w' => e = .returned (.bool true) ∧ w = w' :=
 may_gz p.1 p.2 hp.1 hp.2 w
theorem fk_one : fk 0 1 = 4607182418800017408 := by decide
theorem fk_three : fk 0 3 = 4613937818241073152 := by decide
theorem fk_five : fk 0 5 = 4617315517961601024 := by decide
def BytesAt (w : World) (b off : Nat) (l : List UInt8) : Prop := ∀ i (h : i < l.length), w.cell? ⟨b, off + i, none⟩ = some (.int .u8 (l[i].toNat : Int))
theorem mul35 (p : Int × Int) (hp : Ok p) (w : World) :
  Calls Tryz.prog 110 #[.complex .f64 (fk 0 p.1) (fk 0 p.2), .complex .f64 4613937818241073152 4617315517961601024] w fun e w' => e = .returned (.complex .f64 (fk 0 (gmul p (3, 5)).1) (fk 0 (gmul p (3, 5)).2)) ∧ w = w' := by
 have h := mul_gc p (3, 5) hp (by unfold Ok; decide) w
 simp only [fk_three, fk_five] at h
 exact h
theorem add_byte (p : Int × Int) (n : Int) (hp : Ok p) (h0 : 0 ≤ n) (h1 : n ≤ 65520) (w : World) :
  Calls Tryz.prog 179 #[.complex .f64 (fk 0 p.1) (fk 0 p.2), .complex .f64 (fk 0 n) 0] w fun e w' => e = .returned (.complex .f64 (fk 0 (gadd p (n, 0)).1) (fk 0 (gadd p (n, 0)).2)) ∧ w = w' := by
 have h := add_gc p (n, 0) hp ⟨⟨h0, h1⟩, ⟨by simp, by simp⟩⟩ w
 simp only [fk_zero] at h
 exact h
theorem list_take_snoc (l : List UInt8) (k : Nat) (h : k < l.length) : l.take (k + 1) = l.take k ++ [l[k]] := by
 rw [List.take_succ_eq_append_getElem h]
theorem on_gc (z : Int × Int) (b off cap : Nat) (l : List UInt8) (hz : Ok z) (hl : l.length ≤ maxLen) (w : World) (hc : BytesAt w b off l) :
  Calls Tryz.prog 152 #[.complex .f64 (fk 0 z.1) (fk 0 z.2), .slice (some ⟨b, off, none⟩) l.length cap] w fun e w' => e = .returned (gc (gon z l)) ∧ w = w' := by
 unfold maxLen at hl
 have HC := Lib.hid hc
 clear hc
 go_enter Tryz.func152, Tryz.ntmps152
 go_wp2_with fail
 refine (may_gc z hz _).mono ?_
 rintro e w' ⟨rfl, rfl⟩
 go_wp2_with fail
 go_loop [0, 12] (fun a i => ∃ k : Nat, k ≤ l.length ∧ i = .int .i64 k ∧ a = gc (gon z (l.take k))) (fun _ i => l.length - (intOf i).toNat)
 case atStart => exact ⟨0, Nat.zero_le _, rfl, rfl⟩
 case round =>
  obtain ⟨k, hk, rfl, rfl⟩ := hrel
  by_cases hlt : k < l.length
  ·have hok := ok_gon hz (l.take k)
   have hsn := Lib.hid (gon_snoc z (l.take k) l[k])
   have hts := Lib.hid (list_take_snoc l k hlt)
   have hu := l[k].toNat_lt
   have hcell := HC.out k hlt
   generalize hg : gon z (l.take k) = g at *
   have HG := Lib.hid hg
   clear hg
   generalize l[k] = c at *
   have hlt' : (k : Int) < (l.length : Int) := by omega
   have q1 : floatOfInt .f64 (c.toNat : Int) = fk 0 (c.toNat : Int) := floatOfInt_eq _ (by omega)
   have q2 := fun t w => run_float_arith (P := Tryz.prog) w .add t .f64 (fk 0 (c.toNat : Int)) 4607182418800017408 (fk 0 ((c.toNat : Int) + 1)) (by
    rw [← fk_one]
    exact add_fk 0 _ _ (by omega) (by omega) (by omega) (by omega))
   unfold gc
   go_wp2_with fail
   refine (mul35 g hok _).mono ?_
   rintro e w' ⟨rfl, rfl⟩
   go_wp2_with fail
   refine (add_byte (gmul g (3, 5)) _ (ok_gmul _ _) (by omega) (by omega) _).mono ?_
   rintro e w' ⟨rfl, rfl⟩
   go_wp2_with fail
   go_round
   case rel => exact ⟨k + 1, by omega, by go_num, by rw [hts.out, hsn.out]⟩
   case measure => simp [intOf]; omega
  ·have hkn : l.take k = l := List.take_of_length_le (by omega)
   rw [hkn]
   unfold gc
   go_wp2_with fail
   go_ret
   exact ⟨rfl, rfl⟩
theorem on_nil (z : Int × Int) (hz : Ok z) (w : World) :
  Calls Tryz.prog 152 #[.complex .f64 (fk 0 z.1) (fk 0 z.2), .slice none 0 0] w fun e w' => e = .returned (gc z) ∧ w = w' := by
 go_enter Tryz.func152, Tryz.ntmps152
 go_wp2_with fail
 refine (may_gc z hz _).mono ?_
 rintro e w' ⟨rfl, rfl⟩
 go_wp2_with fail
 go_loop [0, 12] (fun a i => i = .int .i64 0 ∧ a = gc z) (fun _ _ => 0)
 case atStart => exact ⟨rfl, rfl⟩
 case round =>
  obtain ⟨rfl, rfl⟩ := hrel
  unfold gc
  go_wp2_with fail
  go_ret
  exact ⟨rfl, rfl⟩
theorem ok_i : Ok (0, 1) := by unfold Ok; decide
theorem mark_gc (b off cap : Nat) (l : List UInt8) (hl : l.length ≤ maxLen) (w : World) (hc : BytesAt w b off l) :
  Calls Tryz.prog 113 #[.slice (some ⟨b, off, none⟩) l.length cap] w fun e w' => e = .returned (gc (gon (0, 1) l)) ∧ w = w' := by
 have h := on_gc (0, 1) b off cap l ok_i hl w hc
 simp only [fk_zero, fk_one] at h
 have H := Lib.hid h
 clear h hc
 unfold gc at *
 go_enter Tryz.func113, Tryz.ntmps113
 go_wp2_with fail
 refine H.out.mono ?_
 rintro e w' ⟨rfl, rfl⟩
 go_wp2_with fail
 go_ret
 exact ⟨rfl, rfl⟩
theorem mark_nil (w : World) :
  Calls Tryz.prog 113 #[.slice none 0 0] w fun e w' => e = .returned (gc (0, 1)) ∧ w = w' := by
 have h := on_nil (0, 1) ok_i w
 simp only [fk_zero, fk_one] at h
 have H := Lib.hid h
 clear h
 unfold gc at *
 go_enter Tryz.func113, Tryz.ntmps113
 go_wp2_with fail
 refine H.out.mono ?_
 rintro e w' ⟨rfl, rfl⟩
 go_wp2_with fail
 go_ret
 exact ⟨rfl, rfl⟩
theorem ret_str {a b : ByteArray} (h : a = b) : Ending.returned (.string a) = .returned (.string b) := by rw [h]
theorem strN_append (a b : List Int) : strN a ++ strN b = strN (a ++ b) := by
 apply ByteArray.ext
 rw [ByteArray.data_append]
 simp [strN]
theorem strN_size (a : List Int) : (strN a).size = a.length := by simp [strN, ByteArray.size]
theorem zeros_ext (k : Nat) (hk : k ≤ 4) : (⟨#[48, 48, 48, 48]⟩ : ByteArray).extract k 4 = strN (List.replicate (4 - k) 48) := by
 rcases k with _|_|_|_|_|k
 all_goals first | (exfalso; omega) | (apply ByteArray.ext; rfl) | decide
theorem gfour (n : Nat) (hn : n < 65536) (w : World) (ht : TzAt w) :
  Calls Tryz.prog 151 #[.float .f64 (fk 0 n)] w fun e w' => e = .returned (.string (strN (fourL n))) ∧ Below w.heap.size w w' := by
 have H := Lib.hid (fmt16 n hn w ht)
 clear ht
 have hc := fun w => run_convert_float_int (P := Tryz.prog) w 203 2 .f64 .i64 (fk 0 n) n (by kernel_rfl) Tryz.underlying2 (by
  unfold floatToIntVal
  rw [show FloatKind.f64.decode (fk 0 n) = Ieee.double.read (fk 0 n) from rfl, toInt_fk _ (by omega)]
  simp only
  rw [if_pos]
  exact ⟨by show (-9223372036854775808 : Int) ≤ n; omega, by show (n : Int) ≤ 9223372036854775807; omega⟩)
 have hl := hexL_le n
 have hz := strN_size (hexL n)
 have HP := Lib.hid (four_pad n hn)
 have HZ := Lib.hid hz
 have hs1 : (strN (hexL n)).size ≤ 4 := by omega
 have hs2 : ((strN (hexL n)).size : Int) ≤ 4 := by omega
 clear hz
 generalize hgs : strN (hexL n) = s at *
 have HS := Lib.hid hgs
 clear hgs
 go_enter Tryz.func151, Tryz.ntmps151
 go_wp2_with fail
 refine H.out.mono ?_
 rintro e w' ⟨rfl, hb⟩
 go_wp2_with fail
 go_ret
 refine ⟨ret_str ?_, hb⟩
 rw [zeros_ext _ hs1, ← HS.out, strN_append, HS.out, HZ.out, HP.out]
def textL (p : Int × Int) : List Int := fourL p.1.toNat ++ fourL p.2.toNat
theorem ok_nat {p : Int × Int} (h : Ok p) : ∃ a b : Nat, p = ((a : Int), (b : Int)) ∧ a ≤ 65520 ∧ b ≤ 65520 := by
 unfold Ok at h
 refine ⟨p.1.toNat, p.2.toNat, ?_, by omega, by omega⟩
 ext
 ·show p.1 = (p.1.toNat : Int); omega
 ·show p.2 = (p.2.toNat : Int); omega
theorem gtext (p : Int × Int) (hp : Ok p) (w : World) (ht : TzAt w) :
  Calls Tryz.prog 112 #[.complex .f64 (fk 0 p.1) (fk 0 p.2)] w fun e w' => e = .returned (.string (strN (textL p))) ∧ Below w.heap.size w w' := by
 have M := Lib.hid (may_gc p hp)
 obtain ⟨a, b, rfl, ha, hb⟩ := ok_nat hp
 have hT : textL ((a : Int), (b : Int)) = fourL a ++ fourL b := rfl
 rw [hT]
 have A1 := Lib.hid (gfour a (by omega) w ht)
 have HT := Lib.hid ht
 clear ht hT hp
 have hm1 : ((strN (fourL a)).size : Int) = 4 := by rw [strN_size]; rfl
 have hm2 : ((strN (fourL b)).size : Int) = 4 := by rw [strN_size]; rfl
 go_enter Tryz.func112, Tryz.ntmps112
 go_wp2_with fail
 refine (M.out _).mono ?_
 rintro e w' ⟨rfl, rfl⟩
 go_wp2_with fail
 refine A1.out.mono ?_
 rintro e w1 ⟨rfl, hb1⟩
 go_wp2_with fail
 refine (gfour b (by omega) w1 (HT.out.below hb1)).mono ?_
 rintro e w2 ⟨rfl, hb2⟩
 go_wp2_with fail
 go_ret
 exact ⟨ret_str (strN_append _ _), hb1.trans (hb2.mono hb1.size)⟩
theorem gtext_not (x y : Nat) (hx : (Ieee.double.read x).isNaN = false) (hy : (Ieee.double.read y).isNaN = false) (h : mayB x y = false) (w : World) :
  Calls Tryz.prog 112 #[.complex .f64 x y] w fun e w' => e = .returned (.string ⟨#[]⟩) ∧ w = w' := by
 have M2 := Lib.hid (may_not x y hx hy h)
 clear h
 go_enter Tryz.func112, Tryz.ntmps112
 go_wp2_with fail
 refine (M2.out _).mono ?_
 rintro e w' ⟨rfl, rfl⟩
 go_wp2_with fail
 go_ret
 exact ⟨rfl, rfl⟩
def ErrAt (w : World) : Prop := (∃ ev, w.cell? ⟨3, 0, none⟩ = some ev ∧ (ev = .nilIface ∨ ∃ te pe, ev = .iface te pe)) ∧ 3 < w.heap.size
theorem ErrAt.below {w w' : World} (h : ErrAt w) (hb : Below w.heap.size w w') : ErrAt w' := by
 obtain ⟨⟨ev, h1, h2⟩, h3⟩ := h
 exact ⟨⟨ev, by rw [hb.cell h3]; exact h1, h2⟩, Nat.lt_of_lt_of_le h3 hb.size⟩
def PuPost (o : Option Nat) (w : World) (e : Ending) (w' : World) : Prop :=
 ∃ v x, e = .returned (.tuple #[v, x]) ∧ (∀ n, o = some n → v = .int .u64 n ∧ x = .nilIface) ∧ (o = none → v = .int .u64 0 ∧ ∃ t p, x = .iface t p) ∧ Below w.heap.size w w'
theorem puint16 (t : ByteArray) (h8 : t.size = 8) (w : World) (he : ErrAt w) :
  Calls Tryz.prog 150 #[.string t, .int .i64 16, .int .i64 32] w (PuPost (hexP 0 t.data.toList) w) := by
 have H := Lib.hid (ipuint16 t h8 w)
 have hb0 := Lib.bytesWorld_below w 5 t
 have he1 := he.below hb0
 clear he
 have hlim : t.size ≤ 281474976710656 := by omega
 have HB0 := Lib.hid hb0
 clear h8 hb0
 generalize Lib.bytesWorld w 5 t = W at *
 cases ho : hexP 0 t.data.toList with
 | some n =>
  rw [ho] at H
  clear he1
  go_enter Tryz.func150, Tryz.ntmps150
  go_wp2_with fail
  refine H.out.mono ?_
  rintro e w' ⟨rfl, rfl⟩
  unfold uintT
  go_wp2_with fail
  go_ret2
  exact ⟨_, _, rfl, (fun m hm => by cases hm; exact ⟨rfl, rfl⟩), (fun h => by cases h), HB0.out⟩
 | none =>
  rw [ho] at H
  obtain ⟨⟨ev, h1, h2⟩, h3⟩ := he1
  have HT := Lib.hid (Tryz.strconv_toError_syntax ⟨#[80, 97, 114, 115, 101, 85, 105, 110, 116]⟩ t 16 32 ev W hlim h1 h2)
  clear h1 h2 h3
  go_enter Tryz.func150, Tryz.ntmps150
  go_wp2_with fail
  refine H.out.mono ?_
  rintro e w' ⟨rfl, rfl⟩
  unfold uintT
  go_wp2_with fail
  refine HT.out.mono ?_
  rintro e w1 ⟨N, rfl, _, _, hb1⟩
  go_wp2_with fail
  go_ret2
  exact ⟨_, _, rfl, (fun m hm => by cases hm), (fun _ => ⟨rfl, _, _, rfl⟩), HB0.out.trans (hb1.mono HB0.out.size)⟩
theorem hexd_dg (d : Nat) (h : d < 16) : hexd (UInt8.ofNat (dg d).toNat) = some d := by
 rcases d with _|_|_|_|_|_|_|_|_|_|_|_|_|_|_|_|d
 all_goals first | (exfalso; omega) | rfl
theorem hexP_text (a b : Nat) (ha : a < 65536) (hb : b < 65536) : hexP 0 (strN (fourL a ++ fourL b)).data.toList = some (a * 65536 + b) := by
 have e : (strN (fourL a ++ fourL b)).data.toList = (fourL a ++ fourL b).map fun x => UInt8.ofNat x.toNat := rfl
 rw [e]
 unfold fourL
 simp only [List.cons_append, List.nil_append, List.map_cons, List.map_nil, hexP]
 rw [hexd_dg _ (by omega), hexd_dg _ (by omega), hexd_dg _ (by omega), hexd_dg _ (by omega), hexd_dg _ (by omega), hexd_dg _ (by omega), hexd_dg _ (by omega), hexd_dg _ (by omega)]
 simp only [Option.bind_some]
 congr 1
 omega
theorem hexd_lt {c : UInt8} {d : Nat} (h : hexd c = some d) : d < 16 := by
 unfold hexd at h
 split at h
 ·cases h; omega
 ·split at h
  ·cases h; omega
  ·split at h
   ·cases h; omega
   ·cases h
theorem hexP_lt (l : List UInt8) (acc n : Nat) (h : hexP acc l = some n) : n < (acc + 1) * 16 ^ l.length := by
 induction l generalizing acc with
 | nil => cases h; simp
 | cons c l ih =>
  unfold hexP at h
  cases hc : hexd c with
  | none => rw [hc] at h; cases h
  | some d =>
   rw [hc] at h
   have hd := hexd_lt hc
   have h1 := ih (acc * 16 + d) h
   have h2 : (acc * 16 + d + 1) * 16 ^ l.length ≤ ((acc + 1) * 16) * 16 ^ l.length := Nat.mul_le_mul_right _ (by omega)
   rw [List.length_cons, Nat.pow_succ, Nat.mul_comm (16 ^ l.length) 16, ← Nat.mul_assoc]
   omega
theorem text_size (p : Int × Int) : (strN (textL p)).size = 8 := by rw [strN_size]; rfl
theorem and16 (n : Nat) (h : n < 4294967296) : bits BinOp.and IntKind.u64 (n : Int) 65535 = ((n % 65536 : Nat) : Int) := by
 have e := bits_and_u64_nat n 65535 (by omega) (by omega)
 rw [show ((65535 : Nat) : Int) = 65535 from rfl] at e
 rw [e, show (65535 : Nat) = 2 ^ 16 - 1 from rfl, Nat.and_two_pow_sub_one_eq_mod]
def IsText (t : ByteArray) (p : Int × Int) : Prop := Ok p ∧ t = strN (textL p)
theorem gread_yes (t : ByteArray) (p : Int × Int) (hp : IsText t p) (w : World) (ht : TzAt w) (he : ErrAt w) :
  Calls Tryz.prog 111 #[.string t] w fun e w' => e = .returned (.tuple #[.complex .f64 (fk 0 p.1) (fk 0 p.2), .bool true]) ∧ Below w.heap.size w w' := by
 obtain ⟨ho, htx⟩ := hp
 have h8 : t.size = 8 := by rw [htx]; exact text_size p
 have H := Lib.hid (puint16 t h8 w he)
 obtain ⟨a, b, rfl, ha, hb⟩ := ok_nat ho
 have hx : hexP 0 t.data.toList = some (a * 65536 + b) := by rw [htx]; exact hexP_text a b (by omega) (by omega)
 rw [hx] at H
 have HT := Lib.hid ht
 have G := Lib.hid (gtext ((a : Int), (b : Int)) ho)
 have HTX := Lib.hid htx
 clear hx ht he htx ho
 have h8' : (t.size : Int) = 8 := by omega
 have k1 : (a * 65536 + b) / 65536 = a := by omega
 have k2 : (a * 65536 + b) % 65536 = b := by omega
 have q1 := and16 (a * 65536 + b) (by omega)
 rw [k2] at q1
 have q0 : ((a * 65536 + b : Nat) : Int) / 65536 = (a : Int) := by omega
 have f1 : floatOfInt .f64 (a : Int) = fk 0 (a : Int) := floatOfInt_eq _ (by omega)
 have f2 : floatOfInt .f64 (b : Int) = fk 0 (b : Int) := floatOfInt_eq _ (by omega)
 generalize a * 65536 + b = n at *
 clear k1 k2
 go_enter Tryz.func111, Tryz.ntmps111
 go_wp2_with fail
 refine H.out.mono ?_
 rintro e w1 ⟨v, x, rfl, hs, _, hb1⟩
 obtain ⟨rfl, rfl⟩ := hs n rfl
 go_wp2_with fail
 refine (G.out w1 (HT.out.below hb1)).mono ?_
 rintro e w2 ⟨rfl, hb2⟩
 rw [← HTX.out]
 go_wp2_with fail
 go_ret2
 exact ⟨rfl, hb1.trans (hb2.mono hb1.size)⟩
theorem not_toList {a b : ByteArray} (h : a ≠ b) : (a.toList == b.toList) = false := by
 rw [beq_eq_false_iff_ne]
 intro e
 rw [ByteArray.toList_eq, ByteArray.toList_eq] at e
 exact h (ByteArray.ext (Array.toList_inj.1 e))
theorem gread_no (t : ByteArray) (hno : ∀ p, ¬ IsText t p) (w : World) (ht : TzAt w) (he : ErrAt w) :
  Calls Tryz.prog 111 #[.string t] w fun e w' => e = .returned (.tuple #[.complex .f64 0 0, .bool false]) ∧ Below w.heap.size w w' := by
 by_cases h8 : t.size = 8
 ·have H := Lib.hid (puint16 t h8 w he)
  have HT := Lib.hid ht
  have h8' : (t.size : Int) = 8 := by omega
  cases ho : hexP 0 t.data.toList with
  | none =>
   rw [ho] at H
   clear ho ht he hno
   go_enter Tryz.func111, Tryz.ntmps111
   go_wp2_with fail
   refine H.out.mono ?_
   rintro e w1 ⟨v, x, rfl, _, hs, hb1⟩
   obtain ⟨rfl, tt, pp, rfl⟩ := hs rfl
   go_wp2_with fail
   go_ret2
   exact ⟨rfl, hb1⟩
  | some n =>
   rw [ho] at H
   have hn := hexP_lt _ _ _ ho
   rw [show t.data.toList.length = 8 from h8] at hn
   have hn' : n < 4294967296 := by omega
   obtain ⟨a, ha⟩ : ∃ a, n / 65536 = a := ⟨_, rfl⟩
   obtain ⟨b, hb⟩ : ∃ b, n % 65536 = b := ⟨_, rfl⟩
   have q1 := and16 n hn'
   rw [hb] at q1
   have q0 : (n : Int) / 65536 = (a : Int) := by omega
   have f1 : floatOfInt .f64 (a : Int) = fk 0 (a : Int) := floatOfInt_eq _ (by omega)
   have f2 : floatOfInt .f64 (b : Int) = fk 0 (b : Int) := floatOfInt_eq _ (by omega)
   have ha' : a < 65536 := by omega
   have hb' : b < 65536 := by omega
   by_cases hok : Ok ((a : Int), (b : Int))
   ·have hne : strN (textL ((a : Int), (b : Int))) ≠ t := fun h => hno _ ⟨hok, h.symm⟩
    have G := Lib.hid (gtext ((a : Int), (b : Int)) hok)
    have HN := not_toList hne
    clear hno ht he ho ha hb hn hne hok
    generalize strN (textL ((a : Int), (b : Int))) = s at *
    go_enter Tryz.func111, Tryz.ntmps111
    go_wp2_with fail
    refine H.out.mono ?_
    rintro e w1 ⟨v, x, rfl, hs, _, hb1⟩
    obtain ⟨rfl, rfl⟩ := hs n rfl
    go_wp2_with fail
    refine (G.out w1 (HT.out.below hb1)).mono ?_
    rintro e w2 ⟨rfl, hb2⟩
    go_wp2_with fail
    go_ret2
    exact ⟨rfl, hb1.trans (hb2.mono hb1.size)⟩
   ·have va := VW_fk 0 (a : Int) (by omega) (by omega)
    have vb := VW_fk 0 (b : Int) (by omega) (by omega)
    have hm : mayB (fk 0 (a : Int)) (fk 0 (b : Int)) = false := by
     rw [mayB_int _ _ (by omega) (by omega)]
     exact decide_eq_false hok
    have G := Lib.hid (gtext_not _ _ va.nan vb.nan hm)
    have hne : (⟨#[]⟩ : ByteArray) ≠ t := fun h => by rw [← h] at h8; cases h8
    have HN := not_toList hne
    rw [show (⟨#[]⟩ : ByteArray).toList = [] from by rw [ByteArray.toList_eq]] at HN
    clear hno ht he ho ha hb hn hok va vb hm hne
    go_enter Tryz.func111, Tryz.ntmps111
    go_wp2_with fail
    refine H.out.mono ?_
    rintro e w1 ⟨v, x, rfl, hs, _, hb1⟩
    obtain ⟨rfl, rfl⟩ := hs n rfl
    go_wp2_with fail
    refine (G.out w1).mono ?_
    rintro e w2 ⟨rfl, rfl⟩
    go_wp2_with fail
    go_ret2
    exact ⟨rfl, hb1⟩
 ·have h8' : ((t.size : Int) == 8) = false := by rw [beq_eq_false_iff_ne]; omega
  clear ht he hno
  go_enter Tryz.func111, Tryz.ntmps111
  go_wp2_with fail
  go_ret2
  exact ⟨rfl, Below.refl _ _⟩
def hexl (c : UInt8) : Option Nat :=
 if 48 ≤ c.toNat ∧ c.toNat ≤ 57 then some (c.toNat - 48) else if 97 ≤ c.toNat ∧ c.toNat ≤ 102 then some (c.toNat - 87) else none
def rr (k a b : Nat) : List UInt8 → Option (Nat × Nat)
 | [] => some (a, b)
 | c :: l => (hexl c).bind fun d => if k < 4 then rr (k + 1) (a * 16 + d) b l else rr (k + 1) a (b * 16 + d) l
def RngAt (w : World) : Prop := (∃ ev, w.cell? ⟨4, 0, none⟩ = some ev ∧ (ev = .nilIface ∨ ∃ te pe, ev = .iface te pe)) ∧ 4 < w.heap.size
theorem RngAt.below {w w' : World} (h : RngAt w) (hb : Below w.heap.size w w') : RngAt w' := by
 obtain ⟨⟨ev, h1, h2⟩, h3⟩ := h
 exact ⟨⟨ev, by rw [hb.cell h3]; exact h1, h2⟩, Nat.lt_of_lt_of_le h3 hb.size⟩
def PowAt (w : World) : Prop := Lib.TabIs Tryz.prog w "internal/strconv.uint64pow10" .u64 Lib.pow10Tab
theorem PowAt.below {w w' : World} (h : PowAt w) (hb : Below w.heap.size w w') : PowAt w' := Lib.tabBelow_of_tabIs h w' hb
def LibAt (w : World) : Prop := TzAt w ∧ ErrAt w ∧ RngAt w ∧ PowAt w
theorem LibAt.below {w w' : World} (h : LibAt w) (hb : Below w.heap.size w w') : LibAt w' := ⟨h.1.below hb, h.2.1.below hb, h.2.2.1.below hb, h.2.2.2.below hb⟩
def BegunTrue : Prop := ∀ w, LibAt w → Calls Tryz.prog 56 #[] w fun e w' => e = .returned (.bool true) ∧ Below w.heap.size w w'
end Go.Proofs.YtlpgphiccjkenaaGreatDoor
namespace Go.Proofs.YtlpgphiccjkenaaGreatDoor
open Go.RowKit Go.Proofs.Flo Go.Proofs.Cpl Go.Sort
theorem conv_str (s : ByteArray) (w : World) : (convert 9 102 (.string s)).run Tryz.prog w = .ok (.slice (some ⟨w.heap.size, 0, none⟩) s.size (grownCap w s.size 0 5)) (Lib.bytesWorld w 5 s) :=
 Lib.run_convert_string_bytes (P := Tryz.prog) w 9 102 5 s (u := .string) Tryz.underlying9 Tryz.underlying102 Tryz.underlying5
theorem bytesAt_str (w : World) (e : TypeId) (s : ByteArray) : BytesAt (Lib.bytesWorld w e s) w.heap.size 0 s.data.toList := by
 intro i h
 have hc := Lib.bytesWorld_cell w e s i h
 rw [Nat.zero_add, hc]
 simp [List.getD, List.getElem?_eq_getElem h]
theorem mark_str (s : ByteArray) (b n cap : Nat) (G : Int × Int) (hG : gon (0, 1) s.data.toList = G) (hn : s.size = n) (hs : s.size ≤ maxLen) (w : World) (h : BytesAt w b 0 s.data.toList) :
  Calls Tryz.prog 113 #[.slice (some ⟨b, 0, none⟩) n cap] w fun e w' => e = .returned (.complex .f64 (fk 0 G.1) (fk 0 G.2)) ∧ w = w' := by
 subst hn hG
 exact mark_gc b 0 cap s.data.toList hs w h
end Go.Proofs.YtlpgphiccjkenaaGreatDoor
namespace Go.Proofs.YtlpgphiccjkenaaGreatDoor
open Go.RowKit
theorem less_irrefl : ∀ a : List UInt8, Op.bytesLess a a = false
 | [] => by simp [Op.bytesLess]
 | a :: r => by simp [Op.bytesLess, less_irrefl r]
theorem cmp_neg : ∀ a b : List UInt8, Lib.compareBytes a b < 0 ↔ Op.bytesLess a b = true
 | [], [] => by simp [Lib.compareBytes, Op.bytesLess]
 | [], _ :: _ => by simp [Lib.compareBytes, Op.bytesLess]
 | _ :: _, [] => by simp [Lib.compareBytes, Op.bytesLess]
 | a :: r, b :: s => by
  unfold Lib.compareBytes Op.bytesLess
  by_cases h : a < b
  ·simp [h]
  ·by_cases h2 : b < a
   ·have : a ≠ b := fun e => by subst e; exact h h2
    simp [h, h2, this]
   ·have : a = b := by
     apply UInt8.toNat_inj.1
     simp only [UInt8.lt_iff_toNat_lt] at h h2
     omega
    simp [this, cmp_neg r s]
theorem cmp_zero : ∀ a b : List UInt8, Lib.compareBytes a b = 0 ↔ a = b
 | [], [] => by simp [Lib.compareBytes]
 | [], _ :: _ => by simp [Lib.compareBytes]
 | _ :: _, [] => by simp [Lib.compareBytes]
 | a :: r, b :: s => by
  unfold Lib.compareBytes
  by_cases h : a < b
  ·have : a ≠ b := fun e => by subst e; simp at h
   simp [h, this]
  ·by_cases h2 : b < a
   ·have : a ≠ b := fun e => by subst e; exact h h2
    simp [h, h2, this]
   ·have : a = b := by
     apply UInt8.toNat_inj.1
     simp only [UInt8.lt_iff_toNat_lt] at h h2
     omega
    simp [this, cmp_zero r s]
theorem less_trans : ∀ {a b c : List UInt8}, Op.bytesLess a b = true → Op.bytesLess b c = true → Op.bytesLess a c = true
 | _, [], [], h, _ => by simp [Op.bytesLess] at h
 | _, _ :: _, [], _, h => by simp [Op.bytesLess] at h
 | _, [], _ :: _, h, _ => by simp [Op.bytesLess] at h
 | [], _ :: _, _ :: _, _, _ => by simp [Op.bytesLess]
 | a :: r, b :: s, c :: t, h, h' => by
  simp only [Op.bytesLess, Bool.or_eq_true, decide_eq_true_eq, Bool.and_eq_true, beq_iff_eq] at h h' ⊢
  rcases h with h | ⟨rfl, h⟩
  ·rcases h' with h' | ⟨rfl, h'⟩
   ·exact .inl (by simp only [UInt8.lt_iff_toNat_lt] at *; omega)
   ·exact .inl h
  ·rcases h' with h' | ⟨rfl, h'⟩
   ·exact .inl h'
   ·exact .inr ⟨rfl, less_trans h h'⟩
theorem less_asymm {a b : List UInt8} (h : Op.bytesLess a b = true) : Op.bytesLess b a = false := by
 cases hq : Op.bytesLess b a with
 | false => rfl
 | true => have := less_trans h hq; rw [less_irrefl] at this; cases this
theorem less_total : ∀ (a b : List UInt8), Op.bytesLess a b = false → a ≠ b → Op.bytesLess b a = true
 | [], [], _, h => absurd rfl h
 | [], _ :: _, h, _ => by simp [Op.bytesLess] at h
 | _ :: _, [], _, _ => by simp [Op.bytesLess]
 | a :: r, b :: s, h, hn => by
  simp only [Op.bytesLess, Bool.or_eq_false_iff, decide_eq_false_iff_not, Bool.and_eq_false_iff, beq_eq_false_iff_ne] at h
  simp only [Op.bytesLess, Bool.or_eq_true, decide_eq_true_eq, Bool.and_eq_true, beq_iff_eq]
  by_cases e : a = b
  ·subst e
   refine .inr ⟨rfl, less_total r s ?_ (fun e => hn (by rw [e]))⟩
   rcases h.2 with h | h
   ·exact absurd rfl h
   ·exact h
  ·left
   have : ¬ a.toNat = b.toNat := fun x => e (UInt8.toNat_inj.1 x)
   have h1 := h.1
   simp only [UInt8.lt_iff_toNat_lt] at h1 ⊢
   omega
def klt (a b : ByteArray) : Bool := Op.bytesLess a.toList b.toList
def kle (a b : ByteArray) : Bool := klt a b || a.toList == b.toList
theorem ba_toList_inj {a b : ByteArray} (h : a.toList = b.toList) : a = b := by
 rw [ByteArray.toList_eq, ByteArray.toList_eq] at h
 exact ByteArray.ext (Array.ext' h)
theorem kle_eq (a b : ByteArray) : kle a b = !(klt b a) := by
 unfold kle klt
 cases h : Op.bytesLess b.toList a.toList with
 | true =>
  rw [less_asymm h]
  have : a.toList ≠ b.toList := fun e => by rw [e, less_irrefl] at h; cases h
  simp [this]
 | false =>
  by_cases e : a.toList = b.toList
  ·simp [e]
  ·rw [less_total _ _ h (fun x => e x.symm)]; rfl
theorem klt_trans {a b c : ByteArray} (h : klt a b = true) (h' : klt b c = true) : klt a c = true := less_trans h h'
theorem kcmp_neg (a b : ByteArray) : Lib.compareBytes a.data.toList b.data.toList < 0 ↔ klt a b = true := by
 rw [cmp_neg]; unfold klt; rw [ByteArray.toList_eq, ByteArray.toList_eq]
theorem kcmp_zero (a b : ByteArray) : Lib.compareBytes a.data.toList b.data.toList = 0 ↔ a = b := by
 rw [cmp_zero]
 exact ⟨fun h => ByteArray.ext (Array.ext' h), fun h => by rw [h]⟩
def Begun5True : Prop := ∀ w, LibAt w → Calls Tryz.prog 6 #[] w fun e w' => e = .returned (.bool true) ∧ Below w.heap.size w w'
end Go.Proofs.YtlpgphiccjkenaaGreatDoor
