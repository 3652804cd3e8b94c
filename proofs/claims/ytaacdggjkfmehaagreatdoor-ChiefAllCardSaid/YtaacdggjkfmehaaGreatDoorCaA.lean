/-
  Contracts of the program, and what they rest on.
-/
import Derived.Test.YtaacdggjkfmehaaGreatDoorM22
namespace Go.Proofs.YtaacdggjkfmehaaGreatDoor
open Go.RowKit Go.Maps Go.Proofs.MapD Go.Proofs.Chest
structure Qs where
  r : Ro
  nx : Ro
  chg : Bool
  un : Int
  hd : List Int
  asks : Int
  lost : Bool
def qbegin (r : Ro) (now : Int) : Qs := ⟨r, Ro.zero, false, now, allH now, 0, false⟩
def qbeat (t : Qs) (n now : Int) : Qs × Option (Int × Int) :=
  if ixI t.r.l n < 0 then (⟨t.r, t.nx, t.chg, t.un, t.hd, n, t.lost⟩, none)
  else if t.chg then (⟨t.r, t.nx, t.chg, t.un, t.hd.set n.toNat now, t.asks, t.lost⟩, none)
  else (⟨t.r, t.nx, t.chg, max t.un (now + 6), t.hd.set n.toNat now, t.asks, t.lost⟩, some (n, now + 6))
def qfull (t : Qs) (n ep : Int) : Qs := if n = t.r.nw ∧ ep = t.r.ep ∧ t.chg = false then ⟨⟨t.r.ep, t.r.l, 0⟩, t.nx, t.chg, t.un, t.hd, t.asks, t.lost⟩ else t
def qstep (t : Qs) (k n to ep now : Int) : Qs × Option (Int × Int) :=
  if to ≠ 0 ∨ n < 1 ∨ 5 < n then (t, none) else if k = 1 then qbeat t n now else if k = 11 then (qfull t n ep, none) else (t, none)
def qdrops (t : Qs) (now : Int) : Ro × Bool × Bool :=
  if silentS t.hd now t.r.l = 0 then (Ro.zero, false, false)
  else ((dropR t.r (silentS t.hd now t.r.l)).1, true, (dropR t.r (silentS t.hd now t.r.l)).2 && (decide (1 < (dropR t.r (silentS t.hd now t.r.l)).1.l.length) || decide ((dropR t.r (silentS t.hd now t.r.l)).1.nw = 0)))
def qfound (t : Qs) (now : Int) : Ro × Bool :=
  if (qdrops t now).2.1 then ((qdrops t now).1, (qdrops t now).2.2) else if t.asks = 0 then (Ro.zero, false) else addR t.r t.asks
def qtick (t : Qs) (now : Int) : Qs :=
  if t.chg then (if t.un < now then ⟨t.nx, t.nx, false, t.un, allH now, 0, false⟩ else ⟨t.r, t.nx, t.chg, t.un, t.hd, t.asks, false⟩)
  else if (qfound t now).2 then ⟨t.r, (qfound t now).1, true, t.un, t.hd, t.asks, (qdrops t now).2.1 && !(qdrops t now).2.2⟩
  else ⟨t.r, t.nx, t.chg, t.un, t.hd, t.asks, (qdrops t now).2.1 && !(qdrops t now).2.2⟩
structure Sim (s : Cs) (t : Qs) : Prop where
  r : t.r = s.r
  nx : s.chg = true → t.nx = s.nx
  chg : t.chg = s.chg
  un : t.un = s.un
  hd : t.hd = s.hd
  asks : t.asks = s.asks
  lost : t.lost = s.lost
  quiet : s.chg = true → s.lost = false
theorem Sim.begin (r : Ro) (now : Int) : Sim (beginS r now now) (qbegin r now) := ⟨rfl, (fun h => by cases h), rfl, rfl, rfl, rfl, rfl, fun _ => rfl⟩
theorem Sim.again (r _r' x : Ro) (now un : Int) : Sim (beginS r now un) ⟨r, x, false, un, allH now, 0, false⟩ := ⟨rfl, (fun h => by cases h), rfl, rfl, rfl, rfl, rfl, fun _ => rfl⟩
theorem has_neg (l : List Int) (n : Int) : hasI l n = !decide (ixI l n < 0) := by
  unfold hasI
  by_cases h : ixI l n < 0
  · rw [decide_eq_true h, decide_eq_false (by omega)]
    rfl
  · rw [decide_eq_false h, decide_eq_true (by omega)]
    rfl
theorem Sim.beat {s : Cs} {t : Qs} (h : Sim s t) (n now : Int) : Sim (beatS s n now).1 (qbeat t n now).1 ∧ (qbeat t n now).2 = (beatS s n now).2 := by
  obtain ⟨sr, snx, sun, shd, sasks, slost⟩ := s
  obtain ⟨tr, tnx, tchg, tun, thd, tasks, tlost⟩ := t
  obtain ⟨h1, h2, h3, h4, h5, h6, h7, h8⟩ := h
  dsimp only at h1 h2 h3 h4 h5 h6 h7 h8
  subst h1 h3 h4 h5 h6 h7
  unfold beatS qbeat
  dsimp only
  rw [has_neg]
  by_cases hx : ixI tr.l n < 0
  · rw [decide_eq_true hx, if_pos hx, if_neg (by simp)]
    exact ⟨⟨rfl, h2, rfl, rfl, rfl, rfl, rfl, h8⟩, rfl⟩
  · rw [decide_eq_false hx, if_neg hx, if_pos (by simp)]
    split
    · exact ⟨⟨rfl, h2, rfl, rfl, rfl, rfl, rfl, h8⟩, rfl⟩
    · exact ⟨⟨rfl, h2, rfl, rfl, rfl, rfl, rfl, h8⟩, rfl⟩
theorem Sim.step {s : Cs} {t : Qs} (h : Sim s t) (k n to ep now : Int) : Sim (stepS s k n to ep now).1 (qstep t k n to ep now).1 ∧ (qstep t k n to ep now).2 = (stepS s k n to ep now).2 := by
  unfold stepS qstep
  split
  · exact ⟨h, rfl⟩
  split
  · exact h.beat n now
  split
  · refine ⟨?_, rfl⟩
    dsimp only
    unfold fullS qfull
    rw [h.r, h.chg]
    split
    · rename_i hc
      obtain ⟨_, _, hc⟩ := hc
      have hn : ∀ (r : Ro) (un : Int) (hd : List Int) (asks : Int) (lost : Bool), ¬ Cs.chg ⟨r, s.nx, un, hd, asks, lost⟩ = true := fun r un hd asks lost hh => by
        rw [show Cs.chg ⟨r, s.nx, un, hd, asks, lost⟩ = s.chg from rfl, hc] at hh
        cases hh
      exact ⟨rfl, fun hh => absurd hh (hn _ _ _ _ _), rfl, h.un, h.hd, h.asks, h.lost, fun hh => absurd hh (hn _ _ _ _ _)⟩
    · exact h
  · exact ⟨h, rfl⟩
theorem add_may (r : Ro) (n : Int) : ((addR r n).2 = true ∧ mayR (addR r n).1 = true) ∨ ((addR r n).2 = false ∧ (addR r n).1 = Ro.zero) := by
  unfold addR
  split
  · rcases chkR_cases ⟨r.ep + 1, r.l ++ [n], n⟩ with ⟨h1, h2⟩ | h1
    · rw [h1]
      exact .inl ⟨rfl, h2⟩
    · rw [h1]
      exact .inr ⟨rfl, rfl⟩
  · exact .inr ⟨rfl, rfl⟩
theorem drop_may (r : Ro) (n : Int) : ((dropR r n).2 = true ∧ mayR (dropR r n).1 = true) ∨ ((dropR r n).2 = false ∧ (dropR r n).1 = Ro.zero) := by
  unfold dropR
  cases ixN r.l n with
  | none => exact .inr ⟨rfl, rfl⟩
  | some k =>
    dsimp only
    split
    · rcases chkR_cases ⟨r.ep + 1, List.take k r.l ++ List.drop (k + 1) r.l, if r.nw = n then 0 else r.nw⟩ with ⟨h1, h2⟩ | h1
      · rw [h1]
        exact .inl ⟨rfl, h2⟩
      · rw [h1]
        exact .inr ⟨rfl, rfl⟩
    · exact .inr ⟨rfl, rfl⟩
theorem chg_may {r x : Ro} {un : Int} {hd : List Int} {asks : Int} {lost : Bool} (h : mayR x = true) : Cs.chg ⟨r, x, un, hd, asks, lost⟩ = true := by
  have := (may_ep h).1
  exact decide_eq_true (show 0 < x.ep by omega)
theorem may_last {r : Ro} (h : mayR r = true) : (decide (1 < r.l.length) || decide (r.nw = 0)) = true := by
  have h1 := (mayR_ns (e := r.ep) (l := r.l) (nw := r.nw) h).2
  unfold mayW at h1
  cases hn : decide (r.nw = 0) with
  | true => simp
  | false =>
    rw [hn, Bool.false_or, Bool.and_eq_true] at h1
    rw [h1.1]
    rfl
theorem Sim.tick {s : Cs} {t : Qs} (h : Sim s t) (now : Int) : Sim (tickS s now) (qtick t now) := by
  obtain ⟨sr, snx, sun, shd, sasks, slost⟩ := s
  obtain ⟨tr, tnx, tchg, tun, thd, tasks, tlost⟩ := t
  obtain ⟨h1, h2, h3, h4, h5, h6, h7, h8⟩ := h
  dsimp only at h1 h2 h3 h4 h5 h6 h7 h8
  subst h1 h4 h5 h6 h7
  unfold tickS qtick
  dsimp only
  rw [← h3]
  cases tchg with
  | true =>
    rw [if_pos rfl, if_pos rfl]
    obtain rfl := h2 h3.symm
    split
    · exact ⟨rfl, (fun hh => by cases hh), rfl, rfl, rfl, rfl, (h8 h3.symm).symm, (fun hh => by cases hh)⟩
    · exact ⟨rfl, fun _ => rfl, h3, rfl, rfl, rfl, (h8 h3.symm).symm, h8⟩
  | false =>
    rw [if_neg Bool.false_ne_true, if_neg Bool.false_ne_true]
    unfold findS qfound qdrops
    dsimp only
    by_cases hs : silentS thd now tr.l = 0
    · rw [if_pos hs, if_pos hs]
      dsimp only
      rw [if_neg Bool.false_ne_true]
      by_cases ha : tasks = 0
      · subst ha
        rw [if_pos rfl]
        have e : (addR tr 0).1 = Ro.zero := by
          rcases addR_cases tr 0 with ⟨_, _, _, _, h9, _⟩ | h9
          · omega
          · rw [h9]
        rw [e]
        exact ⟨rfl, (fun hh => by cases hh), rfl, rfl, rfl, rfl, rfl, (fun hh => by cases hh)⟩
      · rw [if_neg ha]
        rcases add_may tr tasks with ⟨h9, h10⟩ | ⟨h9, h10⟩
        · rw [h9, if_pos rfl]
          exact ⟨rfl, fun _ => rfl, (chg_may h10).symm, rfl, rfl, rfl, rfl, fun _ => rfl⟩
        · rw [h9, h10, if_neg Bool.false_ne_true]
          exact ⟨rfl, (fun hh => by cases hh), rfl, rfl, rfl, rfl, rfl, (fun hh => by cases hh)⟩
    · rw [if_neg hs, if_neg hs]
      dsimp only
      rw [if_pos rfl]
      generalize silentS thd now tr.l = m at *
      rcases drop_may tr m with ⟨h9, h10⟩ | ⟨h9, h10⟩
      · rw [h9, may_last h10, if_pos (show (true && true) = true from rfl)]
        exact ⟨rfl, fun _ => rfl, (chg_may h10).symm, rfl, rfl, rfl, rfl, fun _ => rfl⟩
      · rw [h9, h10, Bool.false_and, if_neg Bool.false_ne_true]
        exact ⟨rfl, (fun hh => by cases hh), rfl, rfl, rfl, rfl, rfl, (fun hh => by cases hh)⟩
def qcells (v v' : Value) (t : Qs) : List Value :=
  .int .i64 t.r.ep :: v :: .int .i64 t.r.nw :: .int .i64 t.nx.ep :: v' :: .int .i64 t.nx.nw :: .bool t.chg :: .int .i64 t.un :: (iv t.hd ++ [.int .i64 t.asks, .bool t.lost])
def QC (w : World) (y : Nat) (v v' : Value) (t : Qs) : Prop := w.heap[y]? = some (.cells (qcells v v' t).toArray 51 (0, 0)) ∧ t.hd.length = 6
section
variable {w w' : World} {y : Nat} {v v' : Value} {t : Qs}
theorem QC.kept (h : QC w y v v' t) (e : w'.heap[y]? = w.heap[y]?) : QC w' y v v' t := ⟨e.trans h.1, h.2⟩
theorem QC.lt (h : QC w y v v' t) : y < w.heap.size := (Array.getElem?_eq_some_iff.1 h.1).1
theorem QC.cells (h : QC w y v v' t) :
    w.cell? ⟨y, 0, none⟩ = some (.int .i64 t.r.ep) ∧ w.cell? ⟨y, 1, none⟩ = some v ∧ w.cell? ⟨y, 2, none⟩ = some (.int .i64 t.r.nw) ∧
    w.cell? ⟨y, 3, none⟩ = some (.int .i64 t.nx.ep) ∧ w.cell? ⟨y, 4, none⟩ = some v' ∧ w.cell? ⟨y, 5, none⟩ = some (.int .i64 t.nx.nw) ∧ w.cell? ⟨y, 6, none⟩ = some (.bool t.chg) ∧ w.cell? ⟨y, 7, none⟩ = some (.int .i64 t.un) ∧
    w.cell? ⟨y, 14, none⟩ = some (.int .i64 t.asks) ∧ w.cell? ⟨y, 15, none⟩ = some (.bool t.lost) := by
  obtain ⟨a, b, c, d, e, f, hl⟩ := six h.2
  have h0 := h.1
  unfold qcells at h0
  rw [hl] at h0
  refine ⟨?_, ?_, ?_, ?_, ?_, ?_, ?_, ?_, ?_, ?_⟩ <;> (rw [cell_block h0]; rfl)
theorem QC.hd (h : QC w y v v' t) {k : Nat} (hk : k < 6) : w.cell? ⟨y, 8 + k, none⟩ = some (.int .i64 (t.hd.getD k 0)) := by
  obtain ⟨a, b, c, d, e, f, hl⟩ := six h.2
  have h0 := h.1
  unfold qcells at h0
  rw [hl] at h0 ⊢
  rw [cell_block h0]
  obtain rfl | rfl | rfl | rfl | rfl | rfl : k = 0 ∨ k = 1 ∨ k = 2 ∨ k = 3 ∨ k = 4 ∨ k = 5 := by omega
  all_goals rfl
theorem QC.free (h : QC w y v v' t) (k : Nat) : w.frozen? ⟨y, k, none⟩ = false := frozen_block h.1
theorem QC.set {u u' : Value} {t' : Qs} (h : QC w y v v' t) (k : Nat) (z : Value) (hl : t'.hd.length = 6) (e : (qcells v v' t).set k z = qcells u u' t') : QC (w.setCell ⟨y, k, none⟩ z) y u u' t' := by
  refine ⟨?_, hl⟩
  rw [set_block h.1, List.setIfInBounds_toArray, e]
theorem QC.chgS (h : QC w y v v' t) (n : Bool) : QC (w.setCell ⟨y, 6, none⟩ (.bool n)) y v v' ⟨t.r, t.nx, n, t.un, t.hd, t.asks, t.lost⟩ := h.set 6 _ h.2 rfl
theorem QC.unS (h : QC w y v v' t) (n : Int) : QC (w.setCell ⟨y, 7, none⟩ (.int .i64 n)) y v v' ⟨t.r, t.nx, t.chg, n, t.hd, t.asks, t.lost⟩ := h.set 7 _ h.2 rfl
theorem QC.nwS (h : QC w y v v' t) (n : Int) : QC (w.setCell ⟨y, 2, none⟩ (.int .i64 n)) y v v' ⟨⟨t.r.ep, t.r.l, n⟩, t.nx, t.chg, t.un, t.hd, t.asks, t.lost⟩ := h.set 2 _ h.2 rfl
theorem QC.asksS (h : QC w y v v' t) (n : Int) : QC (w.setCell ⟨y, 14, none⟩ (.int .i64 n)) y v v' ⟨t.r, t.nx, t.chg, t.un, t.hd, n, t.lost⟩ := by
  refine h.set 14 _ h.2 ?_
  obtain ⟨a, b, c, d, e, f, hl⟩ := six h.2
  unfold qcells
  dsimp only
  rw [hl]
  rfl
theorem QC.lostS (h : QC w y v v' t) (n : Bool) : QC (w.setCell ⟨y, 15, none⟩ (.bool n)) y v v' ⟨t.r, t.nx, t.chg, t.un, t.hd, t.asks, n⟩ := by
  refine h.set 15 _ h.2 ?_
  obtain ⟨a, b, c, d, e, f, hl⟩ := six h.2
  unfold qcells
  dsimp only
  rw [hl]
  rfl
theorem QC.hear (h : QC w y v v' t) {k : Nat} (hk : k < 6) (n : Int) : QC (w.setCell ⟨y, 8 + k, none⟩ (.int .i64 n)) y v v' ⟨t.r, t.nx, t.chg, t.un, t.hd.set k n, t.asks, t.lost⟩ := by
  refine h.set (8 + k) _ (by simpa using h.2) ?_
  obtain ⟨a, b, c, d, e, f, hl⟩ := six h.2
  unfold qcells
  dsimp only
  rw [hl]
  obtain rfl | rfl | rfl | rfl | rfl | rfl : k = 0 ∨ k = 1 ∨ k = 2 ∨ k = 3 ∨ k = 4 ∨ k = 5 := by omega
  all_goals rfl
theorem QC.rosterS (h : QC w y v v' t) (r : Ro) (u : Value) : QC (((w.setCell ⟨y, 0, none⟩ (.int .i64 r.ep)).setCell ⟨y, 1, none⟩ u).setCell ⟨y, 2, none⟩ (.int .i64 r.nw)) y u v' ⟨r, t.nx, t.chg, t.un, t.hd, t.asks, t.lost⟩ := by
  have h1 := h.set (u := v) (u' := v') (t' := ⟨⟨r.ep, t.r.l, t.r.nw⟩, t.nx, t.chg, t.un, t.hd, t.asks, t.lost⟩) 0 (.int .i64 r.ep) h.2 rfl
  have h2 := h1.set (u := u) (u' := v') (t' := ⟨⟨r.ep, t.r.l, t.r.nw⟩, t.nx, t.chg, t.un, t.hd, t.asks, t.lost⟩) 1 u h.2 rfl
  exact h2.set (u := u) (u' := v') (t' := ⟨r, t.nx, t.chg, t.un, t.hd, t.asks, t.lost⟩) 2 (.int .i64 r.nw) h.2 rfl
theorem QC.nextS (h : QC w y v v' t) (r : Ro) (u : Value) : QC (((w.setCell ⟨y, 3, none⟩ (.int .i64 r.ep)).setCell ⟨y, 4, none⟩ u).setCell ⟨y, 5, none⟩ (.int .i64 r.nw)) y v u ⟨t.r, r, t.chg, t.un, t.hd, t.asks, t.lost⟩ := by
  have h1 := h.set (u := v) (u' := v') (t' := ⟨t.r, ⟨r.ep, t.nx.l, t.nx.nw⟩, t.chg, t.un, t.hd, t.asks, t.lost⟩) 3 (.int .i64 r.ep) h.2 rfl
  have h2 := h1.set (u := v) (u' := u) (t' := ⟨t.r, ⟨r.ep, t.nx.l, t.nx.nw⟩, t.chg, t.un, t.hd, t.asks, t.lost⟩) 4 u h.2 rfl
  exact h2.set (u := v) (u' := u) (t' := ⟨t.r, r, t.chg, t.un, t.hd, t.asks, t.lost⟩) 5 (.int .i64 r.nw) h.2 rfl
def QRep (w : World) (y : Nat) (v v' : Value) (t : Qs) (F : List Nat) : Prop :=
  QC w y v v' t ∧ IsAt w v t.r.l ∧ IsAt w v' t.nx.l ∧ v.ownBlock ≠ some y ∧ v'.ownBlock ≠ some y ∧ F = y :: (v.ownBlock.toList ++ v'.ownBlock.toList)
end
def qx (y : Nat) (v v' : Value) (t : Qs) : It where
  p w F := QRep w y v v' t F
  kept := fun ⟨h1, h2, h3, h4, h5, e⟩ hk => ⟨h1.kept (hk _ (by simp [e])), h2.keep (fun g hg => hk g (by simp [e, hg])), h3.keep (fun g hg => hk g (by simp [e, hg])), h4, h5, e⟩
  lt := fun ⟨h1, h2, h3, h4, h5, e⟩ k hk => by
    rw [e] at hk
    rcases List.mem_cons.1 hk with rfl | hk
    · exact h1.lt
    rcases List.mem_append.1 hk with hk | hk
    · exact h2.lt (by simpa using hk)
    · exact h3.lt (by simpa using hk)
def both (i j : It) : It where
  p w F := ∃ A B, F = A ++ B ∧ i.p w A ∧ j.p w B ∧ ∀ k ∈ A, k ∉ B
  kept := fun ⟨A, B, e, h1, h2, h3⟩ hk => ⟨A, B, e, i.kept h1 (fun k hm => hk k (by simp [e, hm])), j.kept h2 (fun k hm => hk k (by simp [e, hm])), h3⟩
  lt := fun ⟨A, B, e, h1, h2, h3⟩ k hk => by
    rw [e] at hk
    rcases List.mem_append.1 hk with hk | hk
    · exact i.lt h1 k hk
    · exact j.lt h2 k hk
section
variable {w0 w : World} {y : Nat} {v v' : Value} {t : Qs} {L : List It}
theorem Sp.both {i j : It} (h : Sp w0 w (i :: j :: L)) : Sp w0 w (Go.Proofs.YtaacdggjkfmehaaGreatDoor.both i j :: L) := by
  obtain ⟨⟨F, ⟨A, B', rfl, h1, ⟨C, D, rfl, h2, h3, h4⟩, h5⟩, h6⟩, h7⟩ := h
  refine ⟨⟨A ++ (C ++ D), ⟨A ++ C, D, by simp, ⟨A, C, rfl, h1, h2, fun k hk hm => h5 k hk (by simp [hm])⟩, h3, fun k hk => ?_⟩, h6⟩, h7⟩
  rcases List.mem_append.1 hk with hk | hk
  · exact fun hm => h5 k hk (by simp [hm])
  · exact h4 k hk
theorem Sp.qc (h : Sp w0 w (qx y v v' t :: L)) : QC w y v v' t ∧ IsAt w v t.r.l ∧ IsAt w v' t.nx.l := by
  obtain ⟨F, h1, h2, h3, _⟩ := h.get
  exact ⟨h1, h2, h3⟩
theorem Sp.qTurn (h : Sp w0 w (qx y v v' t :: L)) (w' : World) (t' : Qs) (u u' : Value) (g1 : QC w' y u u' t') (g2 : IsAt w' u t'.r.l) (g3 : IsAt w' u' t'.nx.l)
    (g4 : ∀ g, u.ownBlock = some g → v.ownBlock = some g ∨ v'.ownBlock = some g ∨ w.heap.size ≤ g)
    (g5 : ∀ g, u'.ownBlock = some g → v.ownBlock = some g ∨ v'.ownBlock = some g ∨ w.heap.size ≤ g)
    (g6 : Only [y] w w') : Sp w0 w' (qx y u u' t' :: L) := by
  obtain ⟨F, ⟨h1, h2, h3, h4, h5, e⟩, _, k⟩ := h.turn
  have hx := h1.lt
  have hin : ∀ g, (v.ownBlock = some g ∨ v'.ownBlock = some g ∨ w.heap.size ≤ g) → (g ∈ F ∨ w.heap.size ≤ g) ∧ g ≠ y := by
    rintro g (hg | hg | hg)
    · exact ⟨.inl (by simp [e, hg]), fun hh => h4 (hh ▸ hg)⟩
    · exact ⟨.inl (by simp [e, hg]), fun hh => h5 (hh ▸ hg)⟩
    · exact ⟨.inr hg, by omega⟩
  refine k (qx y u u' t') w' ⟨y :: (u.ownBlock.toList ++ u'.ownBlock.toList), ⟨g1, g2, g3, fun hh => (hin y (g4 y hh)).2 rfl, fun hh => (hin y (g5 y hh)).2 rfl, rfl⟩, fun i hi => ?_, g6.mono (by simp [e])⟩
  rcases List.mem_cons.1 hi with rfl | hi
  · exact .inl (by simp [e])
  rcases List.mem_append.1 hi with hi | hi
  · exact (hin i (g4 i (by simpa using hi))).1
  · exact (hin i (g5 i (by simpa using hi))).1
theorem Sp.qSame (h : Sp w0 w (qx y v v' t :: L)) {w' : World} {t' : Qs} (g1 : QC w' y v v' t') (e1 : t'.r.l = t.r.l) (e2 : t'.nx.l = t.nx.l) (g6 : Only [y] w w') : Sp w0 w' (qx y v v' t' :: L) := by
  obtain ⟨F, h1, h2, h3, h4, h5, e⟩ := h.get
  have hk : ∀ u l, IsAt w u l → u.ownBlock ≠ some y → IsAt w' u l := fun u l hu hne => hu.keep (fun g hg => g6.block g (hu.lt hg) (by simp; rintro rfl; exact hne hg))
  exact h.qTurn w' t' v v' g1 (by rw [e1]; exact hk _ _ h2 h4) (by rw [e2]; exact hk _ _ h3 h5) (fun g hg => .inl hg) (fun g hg => .inr (.inl hg)) g6
theorem Sp.qRows (h : Sp w0 w (qx y v v' t :: L)) : v.ownBlock ≠ some y ∧ v'.ownBlock ≠ some y := by
  obtain ⟨F, h1, h2, h3, h4, h5, e⟩ := h.get
  exact ⟨h4, h5⟩
theorem Sp.qNew {l : List Int} (h : Sp w0 w (Go.Proofs.YtaacdggjkfmehaaGreatDoor.ix v l :: L)) {w' : World} (hb : Below w.heap.size w w') (h1 : QC w' y v (.slice none 0 0) t) (hl : t.r.l = l) (hn : t.nx.l = []) (hx : w.heap.size ≤ y) : Sp w0 w' (qx y v (.slice none 0 0) t :: L) := by
  obtain ⟨F, ⟨h2, e⟩, _, k⟩ := h.turn
  have hne : v.ownBlock ≠ some y := fun hh => by have := h2.lt hh; omega
  refine k (qx y v (.slice none 0 0) t) w' ⟨y :: (v.ownBlock.toList ++ []), ⟨h1, by rw [hl]; exact h2.below hb, .inl ⟨rfl, hn⟩, hne, (fun hh => by cases hh), rfl⟩, fun i hi => ?_, ⟨hb.os, hb.tape, hb.output, hb.size, fun k hk _ => hb.block k hk⟩⟩
  rcases List.mem_cons.1 hi with rfl | hi
  · exact .inr hx
  · exact .inl (by rw [e]; simpa using hi)
theorem Sp.qTake {y2 : Nat} {u u' : Value} {t2 t3 : Qs} (h : Sp w0 w (qx y2 u u' t2 :: qx y v v' t :: L)) {w' : World} (g1 : QC w' y2 v u' t3) (e1 : t3.r.l = t.r.l) (e2 : t3.nx.l = t2.nx.l) (g6 : Only [y2] w w') : Sp w0 w' (qx y2 v u' t3 :: L) := by
  obtain ⟨F, ⟨A, B, rfl, ⟨h1, h2, h3, h4, h5, eA⟩, ⟨k1, k2, k3, k4, k5, eB⟩, hd⟩, _, k⟩ := h.both.turn
  have hne : v.ownBlock ≠ some y2 := fun hh => hd y2 (by simp [eA]) (by simp [eB, hh])
  have hk : ∀ z l, IsAt w z l → z.ownBlock ≠ some y2 → IsAt w' z l := fun z l hu hne => hu.keep (fun g hg => g6.block g (hu.lt hg) (by simp; rintro rfl; exact hne hg))
  refine k (qx y2 v u' t3) w' ⟨y2 :: (v.ownBlock.toList ++ u'.ownBlock.toList), ⟨g1, by rw [e1]; exact hk _ _ k2 hne, by rw [e2]; exact hk _ _ h3 h5, hne, h5, rfl⟩, fun i hi => .inl ?_, g6.mono (by simp [eA])⟩
  rw [eA, eB]
  rcases List.mem_cons.1 hi with rfl | hi
  · simp
  rcases List.mem_append.1 hi with hi | hi
  · have : v.ownBlock = some i := by simpa using hi
    simp [this]
  · have : u'.ownBlock = some i := by simpa using hi
    simp [this]
end
end Go.Proofs.YtaacdggjkfmehaaGreatDoor
