/-
  Contracts of the program, and what they rest on.
-/
import Derived.Test.YtaacdggjkfmehaaGreatDoorTie
import Derived.Test.YtaacdggjkfmehaaGreatDoorM07
import Derived.ProofKit
import Derived.LaidMore
import Derived.OpenShut
import Derived.Stop.Joined
import Derived.Stop.LaidErr
import Derived.Lib.LaidTab
import Derived.Lib.TrailingZeros
import Derived.SevenTiedAt
import Derived.Test.YtaacdggjkfmehaaGreatDoorM22
import Derived.ChangeArms
import Derived.Test.YtaacdggjkfmehaaGreatDoorFrame
namespace Go.Proofs.YtaacdggjkfmehaaGreatDoor
open Go.ChangeShapes Go.WideShapes Go.ChangeAt Go.RowKit Go.ChangeMaps
section
variable {H : Type} {enc : TypeId × Value → H} {P : Program} {w : World} {base : Nat} {spare : Nat → Bool} {held : Bool} {fuel : Nat} {t : TypeId} {cs : List Value} {x : DataW H × List MemPlace}
theorem trod_a_slice {e : TypeId} (ht : P.underlying t = some (.slice e)) (h : DataW.trod enc P w base spare held fuel t cs = some x) : ∃ a n c, cs = [.slice a n c] := by
  rcases DataW.trod_slice ht h with ⟨rfl, _⟩ | ⟨a, len, cap, _, _, _, _, rfl, _⟩
  · exact ⟨none, 0, 0, rfl⟩
  · exact ⟨some a, len, cap, rfl⟩
theorem trod_field {fs : Array Field} (ht : P.underlying t = some (.struct fs)) (h : DataW.trod enc P w base spare held fuel t cs = some x) :
    ∃ n, cs.length = P.cellsOf t ∧ ∀ (i : Nat) (f : Field), fs[i]? = some f → ∃ y, DataW.trod enc P w base spare held n f.type ((cs.drop f.offset).take (P.cellsOf f.type)) = some y := by
  obtain ⟨xs, n, _, rfl, hl, hlen, hf⟩ := DataW.trod_struct ht h
  refine ⟨n, hl, fun i f hif => ?_⟩
  have hi : i < xs.length := by rw [hlen]; exact (Array.getElem?_eq_some_iff.1 hif).1
  exact ⟨xs[i], by rw [hf i f hif, List.getElem?_eq_getElem hi]⟩
theorem trod_elem {e : TypeId} {n : Nat} (ht : P.underlying t = some (.array n e)) (h : DataW.trod enc P w base spare held fuel t cs = some x) :
    ∃ m, cs.length = P.cellsOf t ∧ ∀ i, i < n → ∃ y, DataW.trod enc P w base spare held m e ((cs.drop (i * P.cellsOf e)).take (P.cellsOf e)) = some y := by
  obtain ⟨xs, m, _, rfl, hl, hlen, hf⟩ := DataW.trod_array ht h
  refine ⟨m, hl, fun i hi => ?_⟩
  exact ⟨xs[i]'(by omega), by rw [hf i hi, List.getElem?_eq_getElem (by omega)]⟩
end
theorem wcellsWd : Tryz.prog.cellsOf 46 = 21 := by kernel_rfl
theorem wcellsInt : Tryz.prog.cellsOf 3 = 1 := by kernel_rfl
theorem wcellsI64 : Tryz.prog.cellsOf 2 = 1 := by kernel_rfl
theorem wcellsErr : Tryz.prog.cellsOf 31 = 1 := by kernel_rfl
theorem wcellsRes : Tryz.prog.cellsOf 38 = 2 := by kernel_rfl
theorem wcellsRo : Tryz.prog.cellsOf 24 = 3 := by kernel_rfl
theorem wcellsSt : Tryz.prog.cellsOf 44 = 8 := by kernel_rfl
theorem wcellsIs : Tryz.prog.cellsOf 22 = 1 := by kernel_rfl
theorem wcellsDs : Tryz.prog.cellsOf 39 = 1 := by kernel_rfl
theorem wcellsEs : Tryz.prog.cellsOf 40 = 1 := by kernel_rfl
theorem wcellsMs : Tryz.prog.cellsOf 41 = 1 := by kernel_rfl
theorem wcellsAr : Tryz.prog.cellsOf 42 = 5 := by kernel_rfl
set_option linter.unusedSimpArgs false in
set_option maxRecDepth 100000 in
theorem trod_word {H : Type} {enc : TypeId × Value → H} {W : World} {spare : Nat → Bool} {held : Bool} {fuel : Nat} {cs : List Value} {x : DataW H × List MemPlace}
    (h : DataW.trod enc Tryz.prog W 0 spare held fuel 46 cs = some x) : ∃ (k n to ep : Int) (q : Wq), cs = [.int .i64 k, .int .i64 n, .int .i64 to, .int .i64 ep, .int .i64 q.seq, .int .i64 q.req, .int .i64 q.un, .int .i64 q.e, .int .i64 q.v, .int .i64 q.ep, .slice q.a1 q.n1 q.c1, .int .i64 q.nw, .slice q.a2 q.n2 q.c2, .int .i64 q.ss, .slice q.a3 q.n3 q.c3, .slice q.a4 q.n4 q.c4, .int .i64 q.l1, .int .i64 q.l2, .int .i64 q.l3, .int .i64 q.l4, .int .i64 q.l5] := by
  obtain ⟨n, hl, hf⟩ := trod_field Tryz.underlying46 h
  rw [wcellsWd] at hl
  match cs, hl with
  | [c0, c1, c2, c3, c4, c5, c6, c7, c8, c9, c10, c11, c12, c13, c14, c15, c16, c17, c18, c19, c20], _ =>
    obtain ⟨_, t0⟩ := hf 0 _ rfl
    obtain ⟨_, t1⟩ := hf 1 _ rfl
    obtain ⟨_, t2⟩ := hf 2 _ rfl
    obtain ⟨_, t3⟩ := hf 3 _ rfl
    obtain ⟨_, t4⟩ := hf 4 _ rfl
    obtain ⟨_, t5⟩ := hf 5 _ rfl
    obtain ⟨_, t6⟩ := hf 6 _ rfl
    obtain ⟨_, t7⟩ := hf 7 _ rfl
    obtain ⟨_, t8⟩ := hf 8 _ rfl
    obtain ⟨_, t9⟩ := hf 9 _ rfl
    obtain ⟨_, t10⟩ := hf 10 _ rfl
    simp only [List.getElem_toArray, List.getElem_cons_succ, List.getElem_cons_zero, wcellsWd, wcellsInt, wcellsI64, wcellsErr, wcellsRes, wcellsRo, wcellsSt, wcellsIs, wcellsDs, wcellsEs, wcellsMs, wcellsAr, List.drop, List.take] at t0 t1 t2 t3 t4 t5 t6 t7 t8 t9 t10
    obtain ⟨z0, e0, _⟩ := DataW.trod_int Tryz.underlying3 t0
    obtain ⟨z1, e1, _⟩ := DataW.trod_int Tryz.underlying3 t1
    obtain ⟨z2, e2, _⟩ := DataW.trod_int Tryz.underlying3 t2
    obtain ⟨z3, e3, _⟩ := DataW.trod_int Tryz.underlying2 t3
    obtain ⟨z4, e4, _⟩ := DataW.trod_int Tryz.underlying2 t4
    obtain ⟨z5, e5, _⟩ := DataW.trod_int Tryz.underlying2 t5
    obtain ⟨z6, e6, _⟩ := DataW.trod_int Tryz.underlying2 t6
    obtain ⟨_, _, g7⟩ := trod_field Tryz.underlying38 t7
    obtain ⟨_, r0⟩ := g7 0 _ rfl
    obtain ⟨_, r1⟩ := g7 1 _ rfl
    simp only [List.getElem_toArray, List.getElem_cons_succ, List.getElem_cons_zero, wcellsInt, wcellsI64, wcellsErr, wcellsIs, wcellsEs, wcellsMs, wcellsAr, List.drop, List.take] at r0 r1
    obtain ⟨z7, e7, _⟩ := DataW.trod_int Tryz.underlying31 r0
    obtain ⟨z8, e8, _⟩ := DataW.trod_int Tryz.underlying2 r1
    obtain ⟨_, _, g8⟩ := trod_field Tryz.underlying24 t8
    obtain ⟨_, s0⟩ := g8 0 _ rfl
    obtain ⟨_, s1⟩ := g8 1 _ rfl
    obtain ⟨_, s2⟩ := g8 2 _ rfl
    simp only [List.getElem_toArray, List.getElem_cons_succ, List.getElem_cons_zero, wcellsInt, wcellsI64, wcellsErr, wcellsIs, wcellsEs, wcellsMs, wcellsAr, List.drop, List.take] at s0 s1 s2
    obtain ⟨z9, e9, _⟩ := DataW.trod_int Tryz.underlying2 s0
    obtain ⟨a1, n1, k1, e10⟩ := trod_a_slice Tryz.underlying22 s1
    obtain ⟨z11, e11, _⟩ := DataW.trod_int Tryz.underlying3 s2
    obtain ⟨a2, n2, k2, e12⟩ := trod_a_slice Tryz.underlying39 t9
    obtain ⟨_, _, g10⟩ := trod_field Tryz.underlying44 t10
    obtain ⟨_, u0⟩ := g10 0 _ rfl
    obtain ⟨_, u1⟩ := g10 1 _ rfl
    obtain ⟨_, u2⟩ := g10 2 _ rfl
    obtain ⟨_, u3⟩ := g10 3 _ rfl
    simp only [List.getElem_toArray, List.getElem_cons_succ, List.getElem_cons_zero, wcellsInt, wcellsI64, wcellsErr, wcellsIs, wcellsEs, wcellsMs, wcellsAr, List.drop, List.take] at u0 u1 u2 u3
    obtain ⟨z13, e13, _⟩ := DataW.trod_int Tryz.underlying2 u0
    obtain ⟨a3, n3, k3, e14⟩ := trod_a_slice Tryz.underlying40 u1
    obtain ⟨a4, n4, k4, e15⟩ := trod_a_slice Tryz.underlying41 u2
    obtain ⟨_, _, ga⟩ := trod_elem Tryz.underlying42 u3
    obtain ⟨_, v0⟩ := ga 0 (by omega)
    obtain ⟨_, v1⟩ := ga 1 (by omega)
    obtain ⟨_, v2⟩ := ga 2 (by omega)
    obtain ⟨_, v3⟩ := ga 3 (by omega)
    obtain ⟨_, v4⟩ := ga 4 (by omega)
    simp only [wcellsI64, Nat.zero_mul, Nat.one_mul, Nat.mul_one, List.drop, List.take] at v0 v1 v2 v3 v4
    obtain ⟨z16, e16, _⟩ := DataW.trod_int Tryz.underlying2 v0
    obtain ⟨z17, e17, _⟩ := DataW.trod_int Tryz.underlying2 v1
    obtain ⟨z18, e18, _⟩ := DataW.trod_int Tryz.underlying2 v2
    obtain ⟨z19, e19, _⟩ := DataW.trod_int Tryz.underlying2 v3
    obtain ⟨z20, e20, _⟩ := DataW.trod_int Tryz.underlying2 v4
    simp only [List.cons.injEq, and_true] at e0 e1 e2 e3 e4 e5 e6 e7 e8 e9 e10 e11 e12 e13 e14 e15 e16 e17 e18 e19 e20
    subst e0 e1 e2 e3 e4 e5 e6 e7 e8 e9 e10 e11 e12 e13 e14 e15 e16 e17 e18 e19 e20
    exact ⟨z0, z1, z2, z3, ⟨z4, z5, z6, z7, z8, z9, a1, n1, k1, z11, a2, n2, k2, z13, a3, n3, k3, a4, n4, k4, z16, z17, z18, z19, z20⟩, rfl⟩
end Go.Proofs.YtaacdggjkfmehaaGreatDoor
