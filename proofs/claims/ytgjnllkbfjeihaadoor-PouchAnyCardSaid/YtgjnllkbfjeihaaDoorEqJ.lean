/-
  The contracts of pouch's last and join, at any map of classes.
-/
import Derived.Test.YtgjnllkbfjeihaaDoorEqM
namespace Go.Proofs.YtgjnllkbfjeihaaDoor
open Go.RowKit

theorem GoodP.lt {w : World} {p : Pl} (h : GoodP w p) : p.1.block < w.heap.size := by
  obtain ⟨c, t, h⟩ := h
  exact lt_of_heap h

theorem MapIs.lt {w : World} {m : Nat} {E : List (Pl × Pl)} (h : MapIs w m E) : m < w.heap.size := by
  obtain ⟨c, t, h, _⟩ := h
  exact lt_of_heap h

theorem GoodP.ne {w : World} {p : Pl} {m : Nat} {E : List (Pl × Pl)} (h : GoodP w p) (hm : MapIs w m E) : p.1.block ≠ m := by
  obtain ⟨c, t, h⟩ := h
  obtain ⟨c2, t2, h2, _⟩ := hm
  intro e
  rw [e, h2] at h
  cases h

theorem GoodP.sav {w w' : World} {p : Pl} {m : Nat} (h : GoodP w p) (hne : p.1.block ≠ m) (hs : SavM m w w') : GoodP w' p := by
  have hl := h.lt
  obtain ⟨c, t, h⟩ := h
  exact ⟨c, t, by rw [hs.block _ hl hne]; exact h⟩

theorem MapIs.of_block {w w' : World} {m : Nat} {E : List (Pl × Pl)} (h : MapIs w m E) (e : w'.heap[m]? = w.heap[m]?) : MapIs w' m E := by
  obtain ⟨c, t, h, h2⟩ := h
  exact ⟨c, t, by rw [e]; exact h, h2⟩

theorem SavM.refl (m : Nat) (w : World) : SavM m w w := ⟨rfl, rfl, rfl, Nat.le_refl _, fun _ _ _ => rfl⟩

theorem SavM.trans {m : Nat} {a b c : World} (h : SavM m a b) (h' : SavM m b c) : SavM m a c :=
  ⟨h'.os.trans h.os, h'.tape.trans h.tape, h'.output.trans h.output, Nat.le_trans h.size h'.size, fun j hj hne => (h'.block j (Nat.lt_of_lt_of_le hj h.size) hne).trans (h.block j hj hne)⟩

theorem SavM.of_below {m : Nat} {a b : World} (h : Below a.heap.size a b) : SavM m a b := ⟨h.os, h.tape, h.output, h.size, fun j hj _ => h.block j hj⟩

theorem SavM.to_below {m B : Nat} {a b : World} (h : SavM m a b) (hB : B ≤ m) (hB2 : B ≤ a.heap.size) : Below B a b := ⟨h.os, h.tape, h.output, h.size, fun j hj => h.block j (Nat.lt_of_lt_of_le hj hB2) (by omega)⟩

theorem SavM.below {m : Nat} {a b c : World} (h : SavM m a b) (h' : Below a.heap.size b c) : SavM m a c :=
  ⟨h'.os.trans h.os, h'.tape.trans h.tape, h'.output.trans h.output, Nat.le_trans h.size h'.size, fun j hj hne => (h'.block j hj).trans (h.block j hj hne)⟩

theorem SavM.cell {m : Nat} {a b : World} (h : SavM m a b) {j o : Nat} {v : Value} (hc : a.cell? ⟨j, o, none⟩ = some v) (hne : j ≠ m) : b.cell? ⟨j, o, none⟩ = some v := by
  rw [cell_congr (h.block j (World.block_lt_of_cell? a _ hc) hne)]; exact hc

theorem SavM.frz {m : Nat} {a b : World} (h : SavM m a b) {j o : Nat} (hl : j < a.heap.size) (hc : a.frozen? ⟨j, o, none⟩ = false) (hne : j ≠ m) : b.frozen? ⟨j, o, none⟩ = false := by
  rw [World.frozen?_of_block (a := ⟨j, o, none⟩) (h.block j hl hne)]; exact hc

/-- What last leaves. -/
structure LastP (A : Pl → Prop) (w w' : World) (m : Nat) (E E' : List (Pl × Pl)) (x y : Pl) (r : Pl → Nat) (cl : Pl → Pl) (R : Nat) : Prop where
  map : MapIs w' m E'
  sav : SavM m w w'
  inv : Inv r cl E'
  good : ∀ e ∈ E', A e.1 ∧ A e.2
  bnd : ∀ e ∈ E', r e.2 ≤ R
  keys : ∀ p, lk E' p = none ↔ lk E p = none
  root : lk E' y = none
  goody : A y
  cls : cl y = cl x

/-- What its loop keeps. -/
def LastRel (A : Pl → Prop) (w : World) (m : Nat) (E : List (Pl × Pl)) (x : Pl) (r : Pl → Nat) (cl : Pl → Pl) (R : Nat) (k : Nat) (wr : World) : Prop :=
  ∃ (E' : List (Pl × Pl)) (ya : Addr) (yn : Int), k = R + 1 - r (ya, yn) ∧ r (ya, yn) ≤ R ∧
    (wr.cell? ⟨w.heap.size, 0, none⟩ = some (.pointer (some ya)) ∧ wr.cell? ⟨w.heap.size, 1, none⟩ = some (.int .i64 yn)) ∧ (wr.frozen? ⟨w.heap.size, 0, none⟩ = false ∧ wr.frozen? ⟨w.heap.size, 1, none⟩ = false) ∧
    (wr.cell? ⟨w.heap.size + 1, 0, none⟩ = some (.pointer none) ∧ wr.cell? ⟨w.heap.size + 1, 1, none⟩ = some (.int .i64 0)) ∧ (wr.frozen? ⟨w.heap.size + 1, 0, none⟩ = false ∧ wr.frozen? ⟨w.heap.size + 1, 1, none⟩ = false) ∧
    Hid (MapIs wr m E' ∧ SavM m w wr ∧ w.heap.size + 2 ≤ wr.heap.size ∧ Inv r cl E' ∧ (∀ e ∈ E', A e.1 ∧ A e.2) ∧ (∀ e ∈ E', r e.2 ≤ R) ∧ (∀ p, lk E' p = none ↔ lk E p = none) ∧ A (ya, yn) ∧ cl (ya, yn) = cl x)

set_option maxRecDepth 100000 in
set_option maxHeartbeats 4000000 in
theorem last_g (m : Nat) (E : List (Pl × Pl)) (xa : Addr) (xn : Int) (r : Pl → Nat) (cl : Pl → Pl) (R : Nat) (w : World) (A : Pl → Prop) (hA : ∀ p, A p → GoodP w p) (hm : MapIs w m E) (hg : ∀ e ∈ E, A e.1 ∧ A e.2) (hx : A (xa, xn)) (hI : Inv r cl E) (hR : ∀ e ∈ E, r e.2 ≤ R) (hxR : r (xa, xn) ≤ R) :
    Calls Tryd.prog 36 #[.map (some m), .agg #[.pointer (some xa), .int .i64 xn]] w fun e w' => ∃ E' ya yn, e = .returned (.agg #[.pointer (some ya), .int .i64 yn]) ∧ LastP A w w' m E E' (xa, xn) (ya, yn) r cl R := by
  have HA := Lib.hid hA
  have HM := Lib.hid (And.intro hm (And.intro hg (And.intro hx (And.intro hI hR))))
  have hml := hm.lt
  have HMX := Lib.hid hml
  clear hA hm hg hx hI hR hml
  go_enter Tryd.func36, Tryd.ntmps36
  go_wp2_with fail
  go_loopg [5] (R + 1 - r (xa, xn)) (fun k _ wr => LastRel A w m E (xa, xn) r cl R k wr)
  case atStart =>
    have hml := HMX.out
    refine ⟨E, xa, xn, rfl, hxR, ⟨?_, ?_⟩, ⟨?_, ?_⟩, ⟨?_, ?_⟩, ⟨?_, ?_⟩, Lib.hid ⟨HM.out.1.of_block ?_, SavM.of_below (((Below.refl _ _).alloc (Nat.le_refl _) _).alloc (by simp) _), by simp, HM.out.2.2.2.1, HM.out.2.1, HM.out.2.2.2.2, fun _ => Iff.rfl, HM.out.2.2.1, rfl⟩⟩
    · go_simp
    · go_simp
    · go_simp
    · go_simp
    · go_simp
    · go_simp
    · go_simp
    · go_simp
    · rw [heap_alloc_old _ _ (by simp; omega), heap_alloc_old _ _ hml]
  case round =>
    obtain ⟨E', ya, yn, hk, hyR, ⟨c0, c1⟩, ⟨z0, z1⟩, ⟨d0, d1⟩, ⟨y0, y1⟩, HH⟩ := hrel
    have hsv := HH.out.2.1
    have hgw : ∀ p : Pl, A p → GoodP wr p := fun p hp => (HA.out p hp).sav ((HA.out p hp).ne HM.out.1) hsv
    have hgE : ∀ e ∈ E', GoodP wr e.1 := fun e he => hgw _ (HH.out.2.2.2.2.1 e he).1
    have hyg : GoodP wr (ya, yn) := hgw _ HH.out.2.2.2.2.2.2.2.1
    have hl := run_look_g m (ya, yn) wr E' HH.out.1 hyg hgE
    unfold plV at hl
    have HG := Lib.hid (And.intro hgw (And.intro hgE hyg))
    have HK := Lib.hid hk
    have hbs : w.heap.size < wr.heap.size ∧ w.heap.size + 1 < wr.heap.size := ⟨by have := HH.out.2.2.1; omega, by have := HH.out.2.2.1; omega⟩
    obtain ⟨hb0, hb1⟩ := hbs
    clear hsv hgw hgE hyg hk
    cases hlk : lk E' (ya, yn) with
    | none =>
      rw [hlk] at hl
      simp only [Option.isSome_none] at hl
      have HLK := Lib.hid hlk
      clear hlk
      go_wp2_with fail
      have hml := HMX.out
      have hBl : Below w.heap.size wr (((wr.setCell ⟨w.heap.size + 1, 0, none⟩ (.pointer (some ya))).setCell ⟨w.heap.size + 1, 1, none⟩ (.int .i64 yn)).alloc (.cells #[.pointer none, .int .i64 0] 63)) :=
        (((Below.refl _ _).setCell (by simp) _).setCell (by simp) _).alloc (by have := HH.out.2.2.1; simp; omega) _
      have t0 : (((wr.setCell ⟨w.heap.size + 1, 0, none⟩ (.pointer (some ya))).setCell ⟨w.heap.size + 1, 1, none⟩ (.int .i64 yn)).alloc (.cells #[.pointer none, .int .i64 0] 63)).cell? ⟨w.heap.size + 1, 0, none⟩ = some (.pointer (some ya)) := by go_simp
      have t1 : (((wr.setCell ⟨w.heap.size + 1, 0, none⟩ (.pointer (some ya))).setCell ⟨w.heap.size + 1, 1, none⟩ (.int .i64 yn)).alloc (.cells #[.pointer none, .int .i64 0] 63)).cell? ⟨w.heap.size + 1, 1, none⟩ = some (.int .i64 yn) := by go_simp
      generalize ((wr.setCell ⟨w.heap.size + 1, 0, none⟩ (.pointer (some ya))).setCell ⟨w.heap.size + 1, 1, none⟩ (.int .i64 yn)).alloc (.cells #[.pointer none, .int .i64 0] 63) = W3 at *
      obtain ⟨h1, h2, h3, h4, h5, h6, h7, h8, h9⟩ := HH.out
      exact bodyPost_ret (v := .agg #[.pointer (some ya), .int .i64 yn]) (by simp [results, Tryd.results36, go_sem, t0, t1]) rfl ⟨E', ya, yn, rfl, ⟨h1.of_block (hBl.block m hml), h2.below hBl, h4, h5, h6, h7, HLK.out, h8, h9⟩⟩
    | some b =>
      obtain ⟨ba, bn⟩ := b
      rw [hlk] at hl
      simp only [Option.isSome_some] at hl
      have hmem := lk_mem _ _ _ hlk
      have hbg : GoodP wr (ba, bn) := HG.out.1 _ (HH.out.2.2.2.2.1 _ hmem).2
      have hrb : r (ya, yn) < r (ba, bn) ∧ cl (ya, yn) = cl (ba, bn) := HH.out.2.2.2.1.1 _ hmem
      have hrR : r (ba, bn) ≤ R := HH.out.2.2.2.2.2.1 _ hmem
      have hal : ∀ (W : World) (ty : TypeId), m < W.heap.size → ∀ o, (W.alloc (.cells o ty)).heap[m]? = W.heap[m]? := fun W ty h o => heap_alloc_old _ _ h
      have hmw : m < wr.heap.size := HH.out.1.lt
      have hmne : m ≠ w.heap.size ∧ m ≠ w.heap.size + 1 := ⟨by have := HMX.out; omega, by have := HMX.out; omega⟩
      have hgd : ∀ (W : World) (p : Pl), Below wr.heap.size wr W → GoodP wr p → GoodP W p := fun W p hb hp => hp.sav (hp.ne HH.out.1) (SavM.of_below hb)
      have hl2 := run_look_g m (ba, bn) (wr.alloc (.cells #[.pointer (some ba), .int .i64 bn] 63)) E' (HH.out.1.of_block (hal _ _ hmw _)) (hgd _ _ ((Below.refl _ _).alloc (Nat.le_refl _) _) hbg) (fun e he => hgd _ _ ((Below.refl _ _).alloc (Nat.le_refl _) _) (HG.out.2.1 e he))
      unfold plV at hl2
      have HLK := Lib.hid (And.intro hlk (And.intro hrb (And.intro hrR hmem)))
      have HX := Lib.hid (And.intro hbg (And.intro hal (And.intro hmw (And.intro hmne hgd))))
      clear hlk hmem hbg hrb hrR hal hmw hmne hgd
      cases hlk2 : lk E' (ba, bn) with
      | none =>
        rw [hlk2] at hl2
        simp only [Option.isSome_none] at hl2
        clear hlk2
        go_wp2_with fail
        go_roundg (R + 1 - r (ba, bn))
        case measure =>
          have := HK.out
          have := HLK.out.2.1.1
          have := HLK.out.2.2.1
          omega
        case rel =>
          have hml := HMX.out
          obtain ⟨h1, h2, h3, h4, h5, h6, h7, h8, h9⟩ := HH.out
          have hBl : Below w.heap.size wr ((((wr.setCell ⟨w.heap.size, 0, none⟩ (.pointer (some ba))).setCell ⟨w.heap.size, 1, none⟩ (.int .i64 bn)).alloc (.cells #[.pointer (some ba), .int .i64 bn] 63)).alloc (.cells #[.pointer none, .int .i64 0] 63)) :=
            ((((Below.refl _ _).setCell (by simp) _).setCell (by simp) _).alloc (by simp; omega) _).alloc (by simp; omega) _
          refine ⟨E', ba, bn, rfl, HLK.out.2.2.1, ⟨?_, ?_⟩, ⟨?_, ?_⟩, ⟨?_, ?_⟩, ⟨?_, ?_⟩, Lib.hid ⟨h1.of_block (hBl.block m hml), h2.below hBl, by have := hBl.size; simp; omega, h4, h5, h6, h7, (h5 _ HLK.out.2.2.2).2, HLK.out.2.1.2.symm.trans h9⟩⟩
          all_goals go_simp
      | some c =>
        obtain ⟨ca, cn⟩ := c
        rw [hlk2] at hl2
        simp only [Option.isSome_some] at hl2
        have HLK2 := Lib.hid hlk2
        clear hlk2
        obtain ⟨w3, hp, hmp, hsp, hzp⟩ := run_put_g m (ya, yn) (ca, cn) ((wr.alloc (.cells #[.pointer (some ba), .int .i64 bn] 63)).alloc (.cells #[.pointer (some ca), .int .i64 cn] 63)) E' (HH.out.1.of_block (by rw [HX.out.2.1 _ _ (by simp; have := HX.out.2.2.1; omega), HX.out.2.1 _ _ HX.out.2.2.1])) (HX.out.2.2.2.2 _ _ (((Below.refl _ _).alloc (Nat.le_refl _) _).alloc (by simp) _) HG.out.2.2) (fun e he => HX.out.2.2.2.2 _ _ (((Below.refl _ _).alloc (Nat.le_refl _) _).alloc (by simp) _) (HG.out.2.1 e he))
        unfold plV at hp
        have k0 : w3.cell? ⟨w.heap.size, 0, none⟩ = some (.pointer (some ya)) := hsp.cell (by go_simp) HX.out.2.2.2.1.1.symm
        have k1 : w3.cell? ⟨w.heap.size, 1, none⟩ = some (.int .i64 yn) := hsp.cell (by go_simp) HX.out.2.2.2.1.1.symm
        have k2 : w3.frozen? ⟨w.heap.size, 0, none⟩ = false := hsp.frz (by simp; omega) (by go_simp) HX.out.2.2.2.1.1.symm
        have k3 : w3.frozen? ⟨w.heap.size, 1, none⟩ = false := hsp.frz (by simp; omega) (by go_simp) HX.out.2.2.2.1.1.symm
        have hnm : wr.heap.size ≠ m := by have := HX.out.2.2.1; omega
        have k4 : w3.cell? ⟨wr.heap.size, 0, none⟩ = some (.pointer (some ba)) := hsp.cell (by go_simp) hnm
        have k5 : w3.cell? ⟨wr.heap.size, 1, none⟩ = some (.int .i64 bn) := hsp.cell (by go_simp) hnm
        have k6 : w3.cell? ⟨w.heap.size + 1, 0, none⟩ = some (.pointer none) := hsp.cell (by go_simp) HX.out.2.2.2.1.2.symm
        have k7 : w3.cell? ⟨w.heap.size + 1, 1, none⟩ = some (.int .i64 0) := hsp.cell (by go_simp) HX.out.2.2.2.1.2.symm
        have k8 : w3.frozen? ⟨w.heap.size + 1, 0, none⟩ = false := hsp.frz (by simp; omega) (by go_simp) HX.out.2.2.2.1.2.symm
        have k9 : w3.frozen? ⟨w.heap.size + 1, 1, none⟩ = false := hsp.frz (by simp; omega) (by go_simp) HX.out.2.2.2.1.2.symm
        have HS3 := Lib.hid (And.intro hmp (And.intro hsp hzp))
        clear hmp hsp hzp hnm
        go_wp2_with fail
        go_roundg (R + 1 - r (ba, bn))
        case measure =>
          have := HK.out
          have := HLK.out.2.1.1
          have := HLK.out.2.2.1
          omega
        case rel =>
          have hml := HMX.out
          obtain ⟨h1, h2, h3, h4, h5, h6, h7, h8, h9⟩ := HH.out
          have hs3 := HS3.out.2.2
          simp at hs3
          have hB2 : Below w.heap.size wr ((wr.alloc (.cells #[.pointer (some ba), .int .i64 bn] 63)).alloc (.cells #[.pointer (some ca), .int .i64 cn] 63)) :=
            ((Below.refl _ _).alloc (by omega) _).alloc (by simp; omega) _
          have hBl : Below w.heap.size w3 ((w3.setCell ⟨w.heap.size, 0, none⟩ (.pointer (some ba))).setCell ⟨w.heap.size, 1, none⟩ (.int .i64 bn)) := ((Below.refl _ _).setCell (by simp) _).setCell (by simp) _
          have hsv : SavM m w w3 := by
            refine ⟨HS3.out.2.1.os.trans (h2.below hB2).os, HS3.out.2.1.tape.trans (h2.below hB2).tape, HS3.out.2.1.output.trans (h2.below hB2).output, by omega, fun j hj hne => ?_⟩
            rw [HS3.out.2.1.block j (by simp; omega) hne]
            exact (h2.below hB2).block j hj hne
          refine ⟨st E' (ya, yn) (ca, cn), ba, bn, rfl, HLK.out.2.2.1, ⟨?_, ?_⟩, ⟨?_, ?_⟩, ⟨?_, ?_⟩, ⟨?_, ?_⟩, Lib.hid ⟨HS3.out.1.of_block (hBl.block m hml), hsv.below hBl, by have := hBl.size; omega, h4.half HLK.out.1 HLK2.out, fun e he => ?_, fun e he => ?_, fun p => ?_, (h5 _ HLK.out.2.2.2).2, HLK.out.2.1.2.symm.trans h9⟩⟩
          · go_simp
          · go_simp
          · go_simp
          · go_simp
          · go_simp
          · go_simp
          · go_simp
          · go_simp
          · rcases st_mem _ _ _ _ he with rfl | he
            · exact ⟨h8, (h5 ((ba, bn), (ca, cn)) (lk_mem _ _ _ HLK2.out)).2⟩
            · exact h5 e he
          · rcases st_mem _ _ _ _ he with rfl | he
            · exact h6 ((ba, bn), (ca, cn)) (lk_mem _ _ _ HLK2.out)
            · exact h6 e he
          · rw [lk_st, ← h7 p]
            by_cases hp : p = (ya, yn)
            · rw [if_pos hp, hp, HLK.out.1]
              simp
            · rw [if_neg hp]

end Go.Proofs.YtgjnllkbfjeihaaDoor
