/-
  Contracts of the program, and what they rest on.
-/
import Derived.Test.YtaacdggjkfmehaaGreatDoorM22
namespace Go.Proofs.YtaacdggjkfmehaaGreatDoor
open Go.RowKit Go.Maps Go.Proofs.MapD Go.Proofs.Chest
structure OpD where
  k : Int
  n : Int
  f : Int
  old : Bool
  wk : Int
  wn : Int
  wt : Int
  we : Int
  q : Wq
instance : Inhabited OpD := ⟨⟨0, 0, 0, false, 0, 0, 0, 0, Wq.zero⟩⟩
def opcells (d : OpD) : Array Value := #[.int .i64 d.k, .int .i64 d.n, .int .i64 d.f, .bool d.old, .int .i64 d.wk, .int .i64 d.wn, .int .i64 d.wt, .int .i64 d.we, .int .i64 d.q.seq, .int .i64 d.q.req, .int .i64 d.q.un, .int .i64 d.q.e, .int .i64 d.q.v, .int .i64 d.q.ep, .slice d.q.a1 d.q.n1 d.q.c1, .int .i64 d.q.nw, .slice d.q.a2 d.q.n2 d.q.c2, .int .i64 d.q.ss, .slice d.q.a3 d.q.n3 d.q.c3, .slice d.q.a4 d.q.n4 d.q.c4, .int .i64 d.q.l1, .int .i64 d.q.l2, .int .i64 d.q.l3, .int .i64 d.q.l4, .int .i64 d.q.l5]
def opz : Array Value := #[.int .i64 0, .int .i64 0, .int .i64 0, .bool false, .int .i64 0, .int .i64 0, .int .i64 0, .int .i64 0, .int .i64 0, .int .i64 0, .int .i64 0, .int .i64 0, .int .i64 0, .int .i64 0, .slice none 0 0, .int .i64 0, .slice none 0 0, .int .i64 0, .slice none 0 0, .slice none 0 0, .int .i64 0, .int .i64 0, .int .i64 0, .int .i64 0, .int .i64 0]
def OpAt (w : World) (b o : Nat) (d : OpD) : Prop := ∀ i u, (opcells d)[i]? = some u → w.cell? ⟨b, o + i, none⟩ = some u
theorem OpAt.cells {w : World} {b o : Nat} {d : OpD} (h : OpAt w b o d) :
    w.cell? ⟨b, o, none⟩ = some (.int .i64 d.k) ∧ w.cell? ⟨b, o + 1, none⟩ = some (.int .i64 d.n) ∧ w.cell? ⟨b, o + 2, none⟩ = some (.int .i64 d.f) ∧ w.cell? ⟨b, o + 3, none⟩ = some (.bool d.old) ∧ w.cell? ⟨b, o + 4, none⟩ = some (.int .i64 d.wk) ∧ w.cell? ⟨b, o + 5, none⟩ = some (.int .i64 d.wn) ∧ w.cell? ⟨b, o + 6, none⟩ = some (.int .i64 d.wt) ∧ w.cell? ⟨b, o + 7, none⟩ = some (.int .i64 d.we) ∧ w.cell? ⟨b, o + 8, none⟩ = some (.int .i64 d.q.seq) ∧ w.cell? ⟨b, o + 9, none⟩ = some (.int .i64 d.q.req) ∧ w.cell? ⟨b, o + 10, none⟩ = some (.int .i64 d.q.un) ∧ w.cell? ⟨b, o + 11, none⟩ = some (.int .i64 d.q.e) ∧ w.cell? ⟨b, o + 12, none⟩ = some (.int .i64 d.q.v) ∧ w.cell? ⟨b, o + 13, none⟩ = some (.int .i64 d.q.ep) ∧ w.cell? ⟨b, o + 14, none⟩ = some (.slice d.q.a1 d.q.n1 d.q.c1) ∧ w.cell? ⟨b, o + 15, none⟩ = some (.int .i64 d.q.nw) ∧ w.cell? ⟨b, o + 16, none⟩ = some (.slice d.q.a2 d.q.n2 d.q.c2) ∧ w.cell? ⟨b, o + 17, none⟩ = some (.int .i64 d.q.ss) ∧ w.cell? ⟨b, o + 18, none⟩ = some (.slice d.q.a3 d.q.n3 d.q.c3) ∧ w.cell? ⟨b, o + 19, none⟩ = some (.slice d.q.a4 d.q.n4 d.q.c4) ∧ w.cell? ⟨b, o + 20, none⟩ = some (.int .i64 d.q.l1) ∧ w.cell? ⟨b, o + 21, none⟩ = some (.int .i64 d.q.l2) ∧ w.cell? ⟨b, o + 22, none⟩ = some (.int .i64 d.q.l3) ∧ w.cell? ⟨b, o + 23, none⟩ = some (.int .i64 d.q.l4) ∧ w.cell? ⟨b, o + 24, none⟩ = some (.int .i64 d.q.l5) :=
  ⟨h 0 _ rfl, h 1 _ rfl, h 2 _ rfl, h 3 _ rfl, h 4 _ rfl, h 5 _ rfl, h 6 _ rfl, h 7 _ rfl, h 8 _ rfl, h 9 _ rfl, h 10 _ rfl, h 11 _ rfl, h 12 _ rfl, h 13 _ rfl, h 14 _ rfl, h 15 _ rfl, h 16 _ rfl, h 17 _ rfl, h 18 _ rfl, h 19 _ rfl, h 20 _ rfl, h 21 _ rfl, h 22 _ rfl, h 23 _ rfl, h 24 _ rfl⟩
theorem OpAt.below {w w' : World} {b o : Nat} {d : OpD} (h : OpAt w b o d) (hb : Below w.heap.size w w') (hl : b < w.heap.size) : OpAt w' b o d := fun i u hu => by
  have h1 := h i u hu
  rw [← h1]
  unfold World.cell?
  dsimp only
  rw [hb.block b hl]
theorem op_cells {w : World} {g : Nat} {d : OpD} (h : w.heap[g]? = some (.cells (opcells d) 48 (0, 0))) :
    w.cell? ⟨g, 0, none⟩ = some (.int .i64 d.k) ∧ w.cell? ⟨g, 1, none⟩ = some (.int .i64 d.n) ∧ w.cell? ⟨g, 2, none⟩ = some (.int .i64 d.f) ∧ w.cell? ⟨g, 3, none⟩ = some (.bool d.old) := by
  refine ⟨?_, ?_, ?_, ?_⟩ <;> (rw [cell_block h]; rfl)
theorem op_one (d : OpD) : (opcells d).all (·.oneCell') = true := by simp [opcells, Value.oneCell']
end Go.Proofs.YtaacdggjkfmehaaGreatDoor
