/-
  Contracts of the program, and what they rest on.
-/
import Derived.Test.YtaacdggjkfmehaaGreatDoorM22
import Derived.Test.YtaacdggjkfmehaaGreatDoorM03
import Derived.Test.YtaacdggjkfmehaaGreatDoorM02
import Derived.Deep.QuietTactic
import Derived.BigQuiet
import Derived.Test.YtaacdggjkfmehaaGreatDoorProg
import Derived.WalkKit
import Derived.WalkSpells
import Derived.WalkLawsBesides
import Derived.Lib.Hide
import Derived.Deep.RegionLaw
import Derived.Deep.RegionHeld3
import Derived.BigRegion
import Derived.Laws.Rows
import Derived.Laws.Tables
import Derived.Test.YtaacdggjkfmehaaGreatDoorRChJ
import Derived.Test.YtaacdggjkfmehaaGreatDoorOpA
import Derived.Test.YtaacdggjkfmehaaGreatDoorChP
import Derived.Test.YtaacdggjkfmehaaGreatDoorCaA
import Derived.Test.YtaacdggjkfmehaaGreatDoorCaC
import Derived.Test.YtaacdggjkfmehaaGreatDoorCaD
import Derived.Test.YtaacdggjkfmehaaGreatDoorCaE
import Derived.Test.YtaacdggjkfmehaaGreatDoorHeldS
import Derived.Test.YtaacdggjkfmehaaGreatDoorCaF
import Derived.Test.YtaacdggjkfmehaaGreatDoorLdR
import Derived.Test.YtaacdggjkfmehaaGreatDoorChO
import Derived.Test.YtaacdggjkfmehaaGreatDoorCaH
namespace Go.Proofs.YtaacdggjkfmehaaGreatDoor
open Go.RowKit Go.Maps Go.Proofs.MapD Go.Proofs.Chest
def LsOK (q : Option (Int × Int)) (r : Ro) (u : Value) (W : World) : Prop :=
  match q with
  | none => u = .slice none 0 0
  | some (to, un) => ∃ g ad cap, u = .slice (some ⟨g, 0, none⟩) 1 1 ∧ LsAt W g to un r (.slice ad r.l.length cap)
theorem eqls_any {q : Option (Int × Int)} {r : Ro} {u z : Value} {W : World} (h : LsOK q r u W) (h' : LsOK q r z W) (hl : r.l.length ≤ 1000) :
    Calls Tryz.prog 10 #[u, z] W fun e w' => e = .returned (.bool true) ∧ Below W.heap.size W w' := by
  match q, h, h' with
  | none, h, h' =>
    have h : u = .slice none 0 0 := h
    have h' : z = .slice none 0 0 := h'
    subst h h'
    refine (eqls_none W).mono ?_
    rintro _ _ ⟨rfl, rfl⟩
    exact ⟨rfl, Below.refl _ _⟩
  | some (to, un), ⟨g, ad, cap, h1, h2⟩, ⟨g', ad', cap', h1', h2'⟩ =>
    subst h1 h1'
    exact eqls_one h2 h2' hl
section
variable {w0 w : World} {x j c R y : Nat} {s : Cs} {t : Qs} {v v' : Value} {L : List It}
theorem CK.perm {L' : List It} (h : CK w0 w x j c R s L) (hp : L.Perm L') : CK w0 w x j c R s L' := by
  obtain ⟨a, a', bb, rs, hg, hsp⟩ := h
  exact ⟨a, a', bb, rs, hg, hsp.perm ((hp.cons _).cons _)⟩
theorem CK.lastOne {M : List It} {i k : It} (h : CK w0 w x j c R s (M ++ [i, k])) : CK w0 w x j c R s [k] := by
  obtain ⟨a, a', bb, rs, hg, hsp⟩ := h
  refine ⟨a, a', bb, rs, hg, ?_⟩
  have h1 : (cx x j a a' s :: jc c j (jst R bb rs) (jjr bb rs) :: (M ++ [i, k])).Perm ((M ++ [i]) ++ (cx x j a a' s :: jc c j (jst R bb rs) (jjr bb rs) :: [k])) := by
    have h2 := (List.perm_append_comm (l₁ := [cx x j a a' s, jc c j (jst R bb rs) (jjr bb rs)]) (l₂ := M ++ [i])).append_right [k]
    simpa using h2
  exact Sp.dropL (hsp.perm h1)
theorem LeaseOut.keep {q : Option (Int × Int)} {r : Ro} {u : Value} {w' : World} {s' : Cs} (h : LeaseOut q r u (fun l => CK w0 w' x j c R s' (l ++ L))) :
    ∃ M, CK w0 w' x j c R s' (M ++ L) ∧ ∀ W s2 L', CK w0 W x j c R s2 (M ++ L') → LsOK q r u W := by
  match q, h with
  | none, ⟨h1, h2⟩ => exact ⟨[], h2, fun _ _ _ _ => h1⟩
  | some (to, un), ⟨g, ad, cap, h1, h2⟩ =>
    refine ⟨_, h2, fun W s2 L' hc => ⟨g, ad, cap, h1, ?_⟩⟩
    obtain ⟨F, h3, _⟩ := hc.mem (i := Go.Proofs.YtaacdggjkfmehaaGreatDoor.wx g (wcells to un r ad cap)) (by simp)
    obtain ⟨F', h4, _⟩ := hc.mem (i := Go.Proofs.YtaacdggjkfmehaaGreatDoor.ix (.slice ad r.l.length cap) r.l) (by simp)
    exact LsAt.of h3 h4
theorem QOut.ok {q : Option (Int × Int)} {r : Ro} {u z : Value} {W : World} (h : QOut q r u z W) (hi : IsAt W u r.l) : LsOK q r z W := by
  match q, h with
  | none, h => exact h
  | some (to, un), ⟨g, ad, cap, h1, h2, h3⟩ =>
    subst h1
    exact ⟨g, ad, cap, h2, LsAt.of h3 hi⟩
theorem Sp.wxRow {g : Nat} {cs : Array Value} (h : Sp w0 w (Go.Proofs.YtaacdggjkfmehaaGreatDoor.wx g cs :: L)) (cs' : Array Value) : Sp w0 (w.setRow g cs') (Go.Proofs.YtaacdggjkfmehaaGreatDoor.wx g cs' :: L) := by
  obtain ⟨F, ⟨h1, e1⟩, _, kk⟩ := h.turn
  refine kk (Go.Proofs.YtaacdggjkfmehaaGreatDoor.wx g cs') _ ⟨[g], ⟨setRow_heap w g cs cs' _ _ h1, rfl⟩, by simp [e1], ⟨rfl, rfl, rfl, by simp, fun k _ hn => setRow_other w g k cs' (by rintro rfl; exact hn (by simp [e1]))⟩⟩
theorem op_word {w : World} {g : Nat} {d : OpD} (h : w.heap[g]? = some (.cells (opcells d) 48 (0, 0))) : ∀ i u, (wagv d.wk d.wn d.wt d.we d.q)[i]? = some u → w.cell? ⟨g, 4 + i, none⟩ = some u := fun i u hu => by
  rw [cell_block h]
  have e : (wagv d.wk d.wn d.wt d.we d.q).toList = (opcells d).toList.drop 4 := rfl
  have h1 : (wagv d.wk d.wn d.wt d.we d.q).toList[i]? = some u := by rw [Array.getElem?_toList]; exact hu
  rw [e, List.getElem?_drop, Array.getElem?_toList] at h1
  exact h1
theorem wagv_one (k n tt ep : Int) (q : Wq) : (wagv k n tt ep q).all (·.oneCell') = true := by simp [wagv, Value.oneCell']
theorem CK.tickB {s0 : Cs} (h : CK w0 w x j c R s (qx y v v' t :: L)) (hs : Sim s0 t) (hm : mayR s0.r = true) (hh : QHb t.hd) (now : Int) (h0 : 0 ≤ now) (h1 : now ≤ 1000000) :
    Calls Tryz.prog 14 #[.pointer (some ⟨y, 0, none⟩), .int .i64 now] w fun e w' => e = .returned (.tuple #[]) ∧ ∃ u u', CK w0 w' x j c R s (qx y u u' (qtick t now) :: L) := by
  have hms := (mayR_ns (e := s0.r.ep) (l := s0.r.l) (nw := s0.r.nw) hm).1
  have hme := (may_ep hm)
  have hns := (mayNs_iff _).1 hms
  obtain ⟨a, a', bb, rs, hg, hsp⟩ := h
  refine (tick_q hsp.rot (by rw [hs.r]; exact hns.2.1) (by rw [hs.r]; have := hns.1; omega) (by rw [hs.r]; omega) hh now h0 h1).mono ?_
  rintro _ w' ⟨rfl, u, u', h2⟩
  exact ⟨rfl, u, u', a, a', bb, rs, hg, h2.perm (List.perm_middle (l₁ := [cx x j a a' s, jc c j (jst R bb rs) (jjr bb rs)])).symm⟩
theorem CK.ixNew {l : List Int} {u : Value} {w' : World} (h : CK w0 w x j c R s L) (hb : Below w.heap.size w w') (hv : IsAt w' u l) (hn : ∀ g, u.ownBlock = some g → w.heap.size ≤ g) : CK w0 w' x j c R s (ix u l :: L) := by
  obtain ⟨a, a', bb, rs, hg, hsp⟩ := h
  exact ⟨a, a', bb, rs, hg, (hsp.ixNew hb hv hn).perm (List.perm_middle (l₁ := [cx x j a a' s, jc c j (jst R bb rs) (jjr bb rs)])).symm⟩
theorem isat_uno (w : World) (z : Int) : IsAt (w.alloc (.cells #[.int .i64 z] 3)) (.slice (some ⟨w.heap.size, 0, none⟩) 1 1) [z] :=
  .inr ⟨w.heap.size, 0, 1, rfl, by simp, by unfold maxLen; omega, by simp, fun j u hu => by
    match j, hu with
    | 0, hu => simp at hu; subst hu; go_simp
    | j + 1, hu => simp at hu⟩
theorem CK.take {y2 : Nat} {u2 u2' : Value} {t2 : Qs} {M : List It} (h : CK w0 w x j c R s (qx y2 u2 u2' t2 :: (M ++ [qx y v v' t]))) (un : Int) :
    CK w0 ((((w.setCell ⟨y2, 0, none⟩ (.int .i64 t.r.ep)).setCell ⟨y2, 1, none⟩ v).setCell ⟨y2, 2, none⟩ (.int .i64 t.r.nw)).setCell ⟨y2, 7, none⟩ (.int .i64 un)) x j c R s [qx y2 v u2' ⟨t.r, t2.nx, t2.chg, un, t2.hd, t2.asks, t2.lost⟩] := by
  have hp : (qx y2 u2 u2' t2 :: (M ++ [qx y v v' t])).Perm (qx y2 u2 u2' t2 :: qx y v v' t :: M) := List.Perm.cons _ List.perm_append_comm
  obtain ⟨a, a', bb, rs, hg, hsp⟩ := h.perm hp
  have hsp2 : Sp w0 w (qx y2 u2 u2' t2 :: qx y v v' t :: (M ++ [cx x j a a' s, jc c j (jst R bb rs) (jjr bb rs)])) := hsp.perm (by
    have h1 := List.perm_append_comm (l₁ := [cx x j a a' s, jc c j (jst R bb rs) (jjr bb rs)]) (l₂ := qx y2 u2 u2' t2 :: qx y v v' t :: M)
    simpa using h1)
  have g1 := (hsp2.qc.1.rosterS t.r v).unS un
  have h3 := hsp2.qTake g1 rfl rfl (((((Only.refl [y2] w).setCell (p := ⟨y2, 0, none⟩) (.inl (by simp)) _).setCell (p := ⟨y2, 1, none⟩) (.inl (by simp)) _).setCell (p := ⟨y2, 2, none⟩) (.inl (by simp)) _).setCell (p := ⟨y2, 7, none⟩) (.inl (by simp)) _)
  refine ⟨a, a', bb, rs, hg, ?_⟩
  have h4 := h3.perm (List.perm_append_comm (l₁ := [qx y2 v u2' ⟨t.r, t2.nx, t2.chg, un, t2.hd, t2.asks, t2.lost⟩]) (l₂ := M ++ [cx x j a a' s, jc c j (jst R bb rs) (jjr bb rs)]))
  rw [List.append_assoc] at h4
  exact Sp.dropL h4
theorem CK.both {M : List It} {i : It} (h : CK w0 w x j c R s (M ++ [i, qx y v v' t])) (hs : ∃ s0, Sim s0 t ∧ mayR s0.r = true ∧ s0.r.l.length ≤ 900) (k n to ep : Int) (q : Wq) (now : Int) (h0 : 0 ≤ now) (h1 : now ≤ 1000000) :
    Calls Tryz.prog 12 #[.pointer (some ⟨y, 0, none⟩), wagg k n to ep q, .int .i64 now] w fun e w' => ∃ z, e = .returned z ∧ LsOK (qstep t k n to ep now).2 t.r z w' ∧ CK w0 w' x j c R s (M ++ [i, qx y v v' (qstep t k n to ep now).1]) := by
  obtain ⟨s0, hsim, hm, hl⟩ := hs
  have hp : ∀ a : It, (M ++ [i, a]).Perm (a :: (M ++ [i])) := fun a => by
    have h1 : (M ++ [i, a]) = (M ++ [i]) ++ [a] := by simp
    rw [h1]
    exact List.perm_append_comm
  obtain ⟨a, a', bb, rs, hg, hsp⟩ := h.perm (hp _)
  refine (step_q hsp.rot (by rw [hsim.r]; omega) k n to ep q now h0 h1).mono ?_
  rintro _ w' ⟨z, rfl, hz, h2⟩
  have hi := h2.qc.2.1
  have e : (qstep t k n to ep now).1.r.l = t.r.l := by
    unfold qstep qbeat qfull
    split
    · rfl
    split
    · split
      · rfl
      split
      · rfl
      · rfl
    split
    · dsimp only
      split
      · rfl
      · rfl
    · rfl
  rw [e] at hi
  refine ⟨z, rfl, hz.ok hi, CK.perm ⟨a, a', bb, rs, hg, h2.perm (List.perm_middle (l₁ := [cx x j a a' s, jc c j (jst R bb rs) (jjr bb rs)])).symm⟩ (hp _).symm⟩
end
section
variable {P : Program}
theorem exec_load_at {o : Oper} {ev : Operand → Value} {w : World} (ty : TypeId) (x : Operand) (ho : o.op = .load ty x) (g off : Nat) (hx : ev x = .pointer (some ⟨g, off, none⟩)) (cs : Array Value) (d : TypeDesc) (hg : ∀ i u, cs[i]? = some u → w.cell? ⟨g, off + i, none⟩ = some u)
    (hu : P.underlying ty = some d) (hd : (match d with | .struct _ | .array _ _ => true | _ => false) = true) (hi : (P.info? ty).map (·.size) = some cs.size) : (execOp ev o).run P w = .ok (.value (.agg cs)) w := by
  unfold execOp
  simp only [ho, hx, Instr.loadAt, Instr.sureAddr, Sem.run_bind, Sem.run_pure, Result.andThen_ok, run_loadVar_at w g off ty cs d hg hu hd hi]
theorem row_cells {w : World} {g : Nat} {cs : Array Value} {T : TypeId} {fr : Nat × Nat} (h : w.heap[g]? = some (.cells cs T fr)) : ∀ i u, cs[i]? = some u → w.cell? ⟨g, 0 + i, none⟩ = some u := fun i u hu => by
  rw [Nat.zero_add, cell_block h]
  exact hu
end
end Go.Proofs.YtaacdggjkfmehaaGreatDoor
