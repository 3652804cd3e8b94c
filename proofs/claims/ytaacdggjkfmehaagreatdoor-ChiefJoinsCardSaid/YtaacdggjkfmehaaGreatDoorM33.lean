/-
  Contracts of the program, and what they rest on.
-/
import Derived.Test.YtaacdggjkfmehaaGreatDoorM32
namespace Go.Proofs.YtaacdggjkfmehaaGreatDoor
open Go.RowKit Go.Maps Go.Proofs.MapD Go.Proofs.Chest
structure Wq where
  seq : Int
  req : Int
  un : Int
  e : Int
  v : Int
  ep : Int
  a1 : Option Addr
  n1 : Nat
  c1 : Nat
  nw : Int
  a2 : Option Addr
  n2 : Nat
  c2 : Nat
  ss : Int
  a3 : Option Addr
  n3 : Nat
  c3 : Nat
  a4 : Option Addr
  n4 : Nat
  c4 : Nat
  l1 : Int
  l2 : Int
  l3 : Int
  l4 : Int
  l5 : Int
def wagg (k n to ep : Int) (q : Wq) : Value := .agg #[.int .i64 k, .int .i64 n, .int .i64 to, .int .i64 ep, .int .i64 q.seq, .int .i64 q.req, .int .i64 q.un, .int .i64 q.e, .int .i64 q.v, .int .i64 q.ep, .slice q.a1 q.n1 q.c1, .int .i64 q.nw, .slice q.a2 q.n2 q.c2, .int .i64 q.ss, .slice q.a3 q.n3 q.c3, .slice q.a4 q.n4 q.c4, .int .i64 q.l1, .int .i64 q.l2, .int .i64 q.l3, .int .i64 q.l4, .int .i64 q.l5]
def Wq.zero : Wq := ⟨0, 0, 0, 0, 0, 0, none, 0, 0, 0, none, 0, 0, 0, none, 0, 0, none, 0, 0, 0, 0, 0, 0, 0⟩
section
variable {w0 w : World} {x j c R : Nat} {s : Cs} {L : List It}
set_option maxRecDepth 100000 in
set_option maxHeartbeats 8000000 in
theorem step_p (h : CK w0 w x j c R s L) (hR : 2000 ≤ R) (hlib : LibAt w0) (k n to ep : Int) (q : Wq) (now : Int) (h0 : 0 ≤ now) (h1 : now ≤ 4611686018427387904) :
    Calls Tryz.prog 11 #[.pointer (some ⟨x, 0, none⟩), wagg k n to ep q, .int .i64 now] w fun y w' => ∃ u, y = .returned u ∧ LeaseOut (stepS s k n to ep now).2 s.r u (fun l => CK w0 w' x j c R (stepS s k n to ep now).1 (l ++ L)) := by
  have hb : Below w.heap.size w (w.alloc (.cells #[.int .i64 k, .int .i64 n, .int .i64 to, .int .i64 ep, .int .i64 q.seq, .int .i64 q.req, .int .i64 q.un, .int .i64 q.e, .int .i64 q.v, .int .i64 q.ep, .slice q.a1 q.n1 q.c1, .int .i64 q.nw, .slice q.a2 q.n2 q.c2, .int .i64 q.ss, .slice q.a3 q.n3 q.c3, .slice q.a4 q.n4 q.c4, .int .i64 q.l1, .int .i64 q.l2, .int .i64 q.l3, .int .i64 q.l4, .int .i64 q.l5] 46)) := (Below.refl _ _).alloc (Nat.le_refl _) _
  have HK := Lib.hid (h.below hb)
  have HD : Hid (Calls Tryz.prog 32 #[.pointer (some ⟨x, 0, none⟩)] (w.alloc (.cells #[.int .i64 k, .int .i64 n, .int .i64 to, .int .i64 ep, .int .i64 q.seq, .int .i64 q.req, .int .i64 q.un, .int .i64 q.e, .int .i64 q.v, .int .i64 q.ep, .slice q.a1 q.n1 q.c1, .int .i64 q.nw, .slice q.a2 q.n2 q.c2, .int .i64 q.ss, .slice q.a3 q.n3 q.c3, .slice q.a4 q.n4 q.c4, .int .i64 q.l1, .int .i64 q.l2, .int .i64 q.l3, .int .i64 q.l4, .int .i64 q.l5] 46)) fun y w' => y = .returned (.bool false) ∧ (w.alloc (.cells #[.int .i64 k, .int .i64 n, .int .i64 to, .int .i64 ep, .int .i64 q.seq, .int .i64 q.req, .int .i64 q.un, .int .i64 q.e, .int .i64 q.v, .int .i64 q.ep, .slice q.a1 q.n1 q.c1, .int .i64 q.nw, .slice q.a2 q.n2 q.c2, .int .i64 q.ss, .slice q.a3 q.n3 q.c3, .slice q.a4 q.n4 q.c4, .int .i64 q.l1, .int .i64 q.l2, .int .i64 q.l3, .int .i64 q.l4, .int .i64 q.l5] 46)) = w') := Lib.hid (by
    obtain ⟨v, v', b, rs, hg, hsp⟩ := HK.out
    exact down_p hsp.ck.1)
  have HB : Hid ((w.alloc (.cells #[.int .i64 k, .int .i64 n, .int .i64 to, .int .i64 ep, .int .i64 q.seq, .int .i64 q.req, .int .i64 q.un, .int .i64 q.e, .int .i64 q.v, .int .i64 q.ep, .slice q.a1 q.n1 q.c1, .int .i64 q.nw, .slice q.a2 q.n2 q.c2, .int .i64 q.ss, .slice q.a3 q.n3 q.c3, .slice q.a4 q.n4 q.c4, .int .i64 q.l1, .int .i64 q.l2, .int .i64 q.l3, .int .i64 q.l4, .int .i64 q.l5] 46)).cell? ⟨w.heap.size, 0, none⟩ = some (.int .i64 k) ∧ (w.alloc (.cells #[.int .i64 k, .int .i64 n, .int .i64 to, .int .i64 ep, .int .i64 q.seq, .int .i64 q.req, .int .i64 q.un, .int .i64 q.e, .int .i64 q.v, .int .i64 q.ep, .slice q.a1 q.n1 q.c1, .int .i64 q.nw, .slice q.a2 q.n2 q.c2, .int .i64 q.ss, .slice q.a3 q.n3 q.c3, .slice q.a4 q.n4 q.c4, .int .i64 q.l1, .int .i64 q.l2, .int .i64 q.l3, .int .i64 q.l4, .int .i64 q.l5] 46)).cell? ⟨w.heap.size, 1, none⟩ = some (.int .i64 n) ∧ (w.alloc (.cells #[.int .i64 k, .int .i64 n, .int .i64 to, .int .i64 ep, .int .i64 q.seq, .int .i64 q.req, .int .i64 q.un, .int .i64 q.e, .int .i64 q.v, .int .i64 q.ep, .slice q.a1 q.n1 q.c1, .int .i64 q.nw, .slice q.a2 q.n2 q.c2, .int .i64 q.ss, .slice q.a3 q.n3 q.c3, .slice q.a4 q.n4 q.c4, .int .i64 q.l1, .int .i64 q.l2, .int .i64 q.l3, .int .i64 q.l4, .int .i64 q.l5] 46)).cell? ⟨w.heap.size, 2, none⟩ = some (.int .i64 to) ∧ (w.alloc (.cells #[.int .i64 k, .int .i64 n, .int .i64 to, .int .i64 ep, .int .i64 q.seq, .int .i64 q.req, .int .i64 q.un, .int .i64 q.e, .int .i64 q.v, .int .i64 q.ep, .slice q.a1 q.n1 q.c1, .int .i64 q.nw, .slice q.a2 q.n2 q.c2, .int .i64 q.ss, .slice q.a3 q.n3 q.c3, .slice q.a4 q.n4 q.c4, .int .i64 q.l1, .int .i64 q.l2, .int .i64 q.l3, .int .i64 q.l4, .int .i64 q.l5] 46)).cell? ⟨w.heap.size, 3, none⟩ = some (.int .i64 ep)) := Lib.hid (by refine ⟨?_, ?_, ?_, ?_⟩ <;> go_simp)
  have HFULL := Lib.hid (fun (hn : n ≠ 0) => full_p HK.out hR hlib n ep hn)
  have HBEAT : Hid (∀ m : Nat, 1 ≤ m ∧ m ≤ 5 → Calls Tryz.prog 33 #[.pointer (some ⟨x, 0, none⟩), .int .i64 m, .int .i64 now] (w.alloc (.cells #[.int .i64 k, .int .i64 n, .int .i64 to, .int .i64 ep, .int .i64 q.seq, .int .i64 q.req, .int .i64 q.un, .int .i64 q.e, .int .i64 q.v, .int .i64 q.ep, .slice q.a1 q.n1 q.c1, .int .i64 q.nw, .slice q.a2 q.n2 q.c2, .int .i64 q.ss, .slice q.a3 q.n3 q.c3, .slice q.a4 q.n4 q.c4, .int .i64 q.l1, .int .i64 q.l2, .int .i64 q.l3, .int .i64 q.l4, .int .i64 q.l5] 46)) fun y w' => ∃ u, y = .returned u ∧ LeaseOut (beatS s m now).2 s.r u (fun l => CK w0 w' x j c R (beatS s m now).1 (l ++ L))) := Lib.hid (fun m hm => by
    obtain ⟨v, v', b, rs, hg, hsp⟩ := HK.out
    refine (beat_p hsp m hm now h0 h1 (by have := hg.len; omega)).mono ?_
    rintro y w' ⟨u, h1, h2⟩
    refine ⟨u, h1, h2.mono (fun l hl => ⟨v, v', b, rs, hg.beat m now, ?_⟩)⟩
    refine hl.perm ?_
    have hp := (List.perm_append_comm (l₁ := l) (l₂ := [cx x j v v' (beatS s m now).1, jc c j (jst R b rs) (jjr b rs)])).append_right L
    simpa using hp)
  clear h hb h0 h1 hlib
  unfold stepS wagg
  by_cases t1 : to = 0
  case neg =>
    have t1b : (to != 0) = true := by rw [bne_iff_ne]; exact t1
    rw [if_pos (.inl t1)]
    clear t1
    go_enter Tryz.func11, Tryz.ntmps11
    go_wp2_with fail
    generalize w.alloc _ = W at *
    refine HD.out.mono ?_
    rintro _ _ ⟨rfl, rfl⟩
    obtain ⟨b0, b1, b2, b3⟩ := HB.out
    go_wp2_with fail
    go_ret
    exact ⟨_, rfl, rfl, HK.out⟩
  have t1b : (to != 0) = false := by rw [bne_eq_false_iff_eq]; exact t1
  by_cases t2 : n < 1
  case pos =>
    rw [if_pos (.inr (.inl t2))]
    clear t1
    go_enter Tryz.func11, Tryz.ntmps11
    go_wp2_with fail
    generalize w.alloc _ = W at *
    refine HD.out.mono ?_
    rintro _ _ ⟨rfl, rfl⟩
    obtain ⟨b0, b1, b2, b3⟩ := HB.out
    go_wp2_with fail
    go_ret
    exact ⟨_, rfl, rfl, HK.out⟩
  by_cases t3 : 5 < n
  case pos =>
    rw [if_pos (.inr (.inr t3))]
    clear t1
    go_enter Tryz.func11, Tryz.ntmps11
    go_wp2_with fail
    generalize w.alloc _ = W at *
    refine HD.out.mono ?_
    rintro _ _ ⟨rfl, rfl⟩
    obtain ⟨b0, b1, b2, b3⟩ := HB.out
    go_wp2_with fail
    go_ret
    exact ⟨_, rfl, rfl, HK.out⟩
  rw [if_neg (by omega)]
  clear t1
  by_cases t4 : k = 1
  case pos =>
    subst t4
    rw [if_pos rfl]
    obtain ⟨m, rfl⟩ : ∃ m : Nat, n = m := ⟨n.toNat, by omega⟩
    have HBT := Lib.hid (HBEAT.out m (by omega))
    clear HBEAT HFULL
    go_enter Tryz.func11, Tryz.ntmps11
    go_wp2_with fail
    generalize w.alloc _ = W at *
    refine HD.out.mono ?_
    rintro _ _ ⟨rfl, rfl⟩
    obtain ⟨b0, b1, b2, b3⟩ := HB.out
    go_wp2_with fail
    refine HBT.out.mono ?_
    rintro _ w2 ⟨u, rfl, h2⟩
    have H2 := Lib.hid h2
    clear h2 HBT
    go_wp2_with fail
    go_ret
    exact ⟨_, rfl, H2.out⟩
  have t4b : (k == 1) = false := by rw [beq_eq_false_iff_ne]; exact t4
  rw [if_neg t4]
  clear t4
  by_cases t5 : k = 11
  case pos =>
    subst t5
    rw [if_pos rfl]
    have HFL := Lib.hid (HFULL.out (by omega))
    clear HBEAT HFULL
    go_enter Tryz.func11, Tryz.ntmps11
    go_wp2_with fail
    generalize w.alloc _ = W at *
    refine HD.out.mono ?_
    rintro _ _ ⟨rfl, rfl⟩
    obtain ⟨b0, b1, b2, b3⟩ := HB.out
    go_wp2_with fail
    refine HFL.out.mono ?_
    rintro _ w2 ⟨rfl, h2⟩
    have H2 := Lib.hid h2
    clear h2 HFL
    go_wp2_with fail
    go_ret
    exact ⟨_, rfl, rfl, H2.out⟩
  have t5b : (k == 11) = false := by rw [beq_eq_false_iff_ne]; exact t5
  rw [if_neg t5]
  clear t5
  case' _ =>
    go_enter Tryz.func11, Tryz.ntmps11
    go_wp2_with fail
    generalize w.alloc _ = W at *
    refine HD.out.mono ?_
    rintro _ _ ⟨rfl, rfl⟩
    obtain ⟨b0, b1, b2, b3⟩ := HB.out
    go_wp2_with fail
    go_ret
    exact ⟨_, rfl, rfl, HK.out⟩
end
end Go.Proofs.YtaacdggjkfmehaaGreatDoor
namespace Go.Proofs.YtaacdggjkfmehaaGreatDoor
open Go.RowKit Go.Maps Go.Proofs.MapD Go.Proofs.Chest
section
variable {w0 w : World} {c R : Nat} {L : List It}
theorem CK.begin {j x : Nat} {b : Option Ro} {rs : List Ro} {r : Ro} {now un : Int} {u : Value} {W w' : World} (h : Sp w0 W (jc c j (jst R b rs) (jjr b rs) :: L)) (hg : JG b rs r) (hm : mayR r = true) (hb : Below W.heap.size W w')
    (hc : CC w' x j u (.slice none 0 0) (beginS r now un)) (hi : IsAt w' u r.l) (hx : W.heap.size ≤ x) (hu : ∀ g, u.ownBlock = some g → W.heap.size ≤ g ∧ g ≠ x) : CK w0 w' x j c R (beginS r now un) L :=
  ⟨u, .slice none 0 0, b, rs, GS.begin hm hg now un, h.ckNew hb hc hi (.inl ⟨rfl, rfl⟩) hx hu (fun g hg => by cases hg)⟩
set_option maxRecDepth 100000 in
set_option maxHeartbeats 8000000 in
theorem open_last {b : Option Ro} {rs : List Ro} {r : Ro} {e nw : Int} {l : List Int} {u : Value} (h : Sp w0 w (ch c (jst R b rs) :: ix u l :: L)) (hg : JG b rs r) (hm : mayR r = true) (hlib : LibAt w0) (now : Int) (h0 : 0 ≤ now) (h1 : now ≤ 4611686018427387904) :
    Calls Tryz.prog 8 #[.pointer (some ⟨c, 0, none⟩), .agg #[.int .i64 e, u, .int .i64 nw], .int .i64 now] w fun y w' => ∃ x j, y = .returned (.tuple #[.pointer (some ⟨x, 0, none⟩), .int .i64 0]) ∧ CK w0 w' x j c R (beginS r now (now + 6)) (ix u l :: L) := by
  obtain ⟨ad, cap, rfl, _⟩ := h.swap.ix.shape
  have HSP := Lib.hid (h.below (ro_below w e (.slice ad l.length cap) nw 24))
  have HOP := Lib.hid (s_open_ok HSP.out hlib (by rw [jst_one]; decide) (jst_open hg))
  have HLA := Lib.hid (fun j W (hW : Sp w0 W (jc c j (jst R b rs) (jjr b rs) :: ix (.slice ad l.length cap) l :: L)) => lasting_p hW hg hlib)
  have HLS := Lib.hid (leased_p now h0 h1)
  have HGM := Lib.hid (And.intro hg hm)
  have hep : (0 : Int) < r.ep := by have := (may_ep hm).1; omega
  clear h hg hm hlib h0 h1
  obtain ⟨re, rl, rn⟩ := r
  dsimp only at hep
  go_enter Tryz.func8, Tryz.ntmps8
  go_wp2_with fail
  generalize w.alloc _ = W at *
  refine HOP.out.mono ?_
  rintro _ w1 ⟨j, rfl, hs1⟩
  have HS1 := Lib.hid hs1
  clear hs1 HOP HSP
  go_wp2_with fail
  refine (HLA.out j w1 HS1.out).mono ?_
  rintro _ w2 ⟨a2, c2, rfl, ho2, hb2⟩
  dsimp only at ho2 ⊢
  have HB2 := Lib.hid hb2
  have HO2 := Lib.hid ho2
  clear ho2 hb2 HLA
  have hx2 := HB2.out.alloc HB2.out.size (.cells #[.int .i64 re, .slice a2 rl.length c2, .int .i64 rn] 24)
  have HRC := Lib.hid (RC.new w2 re a2 rl.length c2 rn 24)
  have HB3 := Lib.hid hx2
  have HI3 := Lib.hid (HO2.out.at.below ((Below.refl _ w2).alloc (Nat.le_refl _) (.cells #[.int .i64 re, .slice a2 rl.length c2, .int .i64 rn] 24)))
  clear hx2
  go_wp2_with fail
  generalize w2.alloc _ = W3 at *
  have HBS := Lib.hid (show w2.heap.size ≥ w1.heap.size from HB2.out.size)
  have HOL := Lib.hid (fun g hg => HO2.out.lt (g := g) hg)
  generalize w2.heap.size = B2 at *
  have HS : Hid (∀ W' : World, Below W3.heap.size W3 W' → W'.cell? ⟨B2, 0, none⟩ = some (.int .i64 re) ∧ W'.cell? ⟨B2, 1, none⟩ = some (.slice a2 rl.length c2) ∧ W'.cell? ⟨B2, 2, none⟩ = some (.int .i64 rn)) := Lib.hid (fun W' hW => by
    obtain ⟨⟨h1, h2, h3⟩, _⟩ := HRC.out.below hW
    exact ⟨h1, h2, h3⟩)
  have HX0 := Lib.hid (Below.refl W3.heap.size W3).drew
  have hS0 := HS.out _ HX0.out
  refine wp_region_held (S := fun W' : World => W'.cell? ⟨B2, 0, none⟩ = some (.int .i64 re) ∧ W'.cell? ⟨B2, 1, none⟩ = some (.slice a2 rl.length c2) ∧ W'.cell? ⟨B2, 2, none⟩ = some (.int .i64 rn)) (by kernel_rfl) ?_
  change wpAnyH _ _ _ _ _ _ _ _ (World.drew _)
  refine wpAnyH_take (i := 0) (v := Value.pointer (some ⟨j, 0, none⟩)) rfl (by kernel_rfl) (by kernel_rfl) (by kernel_rfl) (fun _ _ _ h => h) (Or.inl ⟨by rfl, ?_⟩) hS0 ?_
  · intro w' ⟨s0, s1, s2⟩; go_simp
  refine wpAnyH_take (i := 1) (v := Value.agg #[.int .i64 re, .slice a2 rl.length c2, .int .i64 rn]) rfl (by kernel_rfl) (by kernel_rfl) (by kernel_rfl) (fun _ _ _ h => h) (Or.inl ⟨by rfl, ?_⟩) hS0 ?_
  · intro w' ⟨s0, s1, s2⟩; go_simp
  refine wpAnyH_take (i := 2) (v := Value.int .i64 now) rfl (by kernel_rfl) (by kernel_rfl) (by kernel_rfl) (fun _ _ _ h => h) (Or.inl ⟨by rfl, ?_⟩) hS0 ?_
  · intro w' ⟨s0, s1, s2⟩; go_simp
  refine wpAnyH_take (i := 3) (v := Value.int .i64 now) rfl (by kernel_rfl) (by kernel_rfl) (by kernel_rfl) (fun _ _ _ h => h) (Or.inl ⟨by rfl, ?_⟩) hS0 ?_
  · intro w' ⟨s0, s1, s2⟩; go_simp
  simp only [List.getElem_toArray, List.getElem_cons_succ, List.getElem_cons_zero, Act.put, List.setIfInBounds_toArray, List.set_cons_zero, List.set_cons_succ]
  clear hS0
  refine wpAnyH_ready (rs := [4]) (by kernel_rfl) (by simp) ?_
  refine AllReadyH.cons rfl (fun K hK => ?_) AllReadyH.nil
  simp only [List.getElem_toArray, List.getElem_cons_succ, List.getElem_cons_zero]
  go_simp
  refine (HLS.out _).mono ?_
  rintro _ _ ⟨rfl, rfl⟩
  refine hK.out _ _ (HS.out _ HX0.out) (fun _ => ?_)
  clear hK
  refine wpAnyH_ready (rs := [5]) (by kernel_rfl) (by simp) ?_
  refine AllReadyH.cons rfl (fun K hK => ?_) AllReadyH.nil
  simp only [List.getElem_toArray, List.getElem_cons_succ, List.getElem_cons_zero]
  go_simp
  refine (begin_c (j := j) (e := re) (nw := rn) (l := rl) (HI3.out.below HX0.out) now (now + 6)).mono ?_
  rintro _ w4 ⟨x, rfl, hc4, hi4, hx4, hb4⟩
  have hb4' : Below W3.heap.size W3 w4 := ⟨hb4.os, hb4.tape, hb4.output, hb4.size, hb4.block⟩
  have HX4 := Lib.hid hb4'
  have HC4 := Lib.hid hc4
  have HI4 := Lib.hid hi4
  have HXX := Lib.hid (show W3.heap.size ≤ x from hx4)
  clear hc4 hi4 hx4 hb4 hb4'
  refine hK.out _ _ (HS.out _ HX4.out) (fun _ => ?_)
  clear hK
  refine wpAnyH_ready (rs := [6]) (by kernel_rfl) (by simp) ?_
  refine AllReadyH.cons rfl (fun K hK => ?_) AllReadyH.nil
  simp only [List.getElem_toArray, List.getElem_cons_succ, List.getElem_cons_zero]
  go_simp
  refine hK.out _ _ (HS.out _ HX4.out) (fun _ => ?_)
  clear hK
  refine wpAnyH_ready (rs := [7]) (by kernel_rfl) (by simp) ?_
  refine AllReadyH.cons rfl (fun K hK => ?_) AllReadyH.nil
  simp only [List.getElem_toArray, List.getElem_cons_succ, List.getElem_cons_zero]
  go_simp
  refine hK.out _ _ (HS.out _ HX4.out) (fun _ => ?_)
  clear hK
  refine wpAnyH_done (by kernel_rfl) ?_ _
  go_wp2_with fail
  have hck := CK.begin HS1.out HGM.out.1 HGM.out.2 (HB3.out.trans (HX4.out.mono HB3.out.size)) HC4.out HI4.out (Nat.le_trans HB3.out.size HXX.out) (fun g hg => by
    have h1 := HOL.out g hg
    have h2 := HXX.out
    have h3 := HRC.out.lt
    exact ⟨h1.1, by omega⟩)
  exact bodyPost_ret (v := .tuple #[.pointer (some ⟨x, 0, none⟩), .int .i64 0]) (by simp [results, Tryz.results8, go_sem]) rfl ⟨x, j, rfl, hck⟩
set_option maxRecDepth 100000 in
set_option maxHeartbeats 8000000 in
theorem open_form {e nw : Int} {l : List Int} {u : Value} (h : Sp w0 w (ch c ⟨R, []⟩ :: ix u l :: L)) (hR : 11 ≤ R) (hl : l.length ≤ 1000) (hm : ¬ (mayR ⟨e, l, nw⟩ = true ∧ nw = 0)) (hlib : LibAt w0) (now : Int) :
    Calls Tryz.prog 8 #[.pointer (some ⟨c, 0, none⟩), .agg #[.int .i64 e, u, .int .i64 nw], .int .i64 now] w fun y w' => y = .returned (.tuple #[.pointer none, .int .i64 1]) ∧ Sp w0 w' (ix u l :: L) := by
  obtain ⟨ad, cap, rfl, _⟩ := h.swap.ix.shape
  have HSP := Lib.hid ((h.rxNew e nw (.slice ad l.length cap)).swap)
  have HOP := Lib.hid (s_open_ok HSP.out hlib (by simp) (jst_new R (by omega)))
  have HLA := Lib.hid (fun j W (hW : Sp w0 W (jc c j (jst R none []) (jjr none []) :: rx w.heap.size e (.slice ad l.length cap) nw :: ix (.slice ad l.length cap) l :: L)) => lasting_p hW JG.start hlib)
  have HMAY := Lib.hid (fun W (hW : IsAt W (.slice ad l.length cap) l) => romay_p e nw _ l W hW (by omega))
  clear h hR hl hlib
  go_enter Tryz.func8, Tryz.ntmps8
  go_wp2_with fail
  generalize w.alloc _ = W at *
  refine HOP.out.mono ?_
  rintro _ w1 ⟨j, rfl, hs1⟩
  have HS1 := Lib.hid hs1
  clear hs1 HOP HSP
  go_wp2_with fail
  refine (HLA.out j w1 HS1.out).mono ?_
  rintro _ w2 ⟨a2, c2, rfl, _, hb2⟩
  rw [show (Ro.zero, true).1 = Ro.zero from rfl, show Ro.zero.l.length = 0 from rfl, show Ro.zero.ep = 0 from rfl, show Ro.zero.nw = 0 from rfl]
  have HSZ := Lib.hid (show w.heap.size < w2.heap.size by have := HS1.out.swap.rx.lt; have := hb2.size; omega)
  have HS3 := Lib.hid (HS1.out.below (hb2.alloc hb2.size (.cells #[.int .i64 0, .slice a2 0 c2, .int .i64 0] 24)))
  have hlt := HSZ.out
  obtain ⟨⟨p0, p1, p2⟩, _⟩ := (HS1.out.below hb2).swap.rx.rc
  clear hb2 HLA HS1
  go_wp2_with fail
  generalize w2.alloc _ = W3 at *
  clear hlt p0 p1 p2
  refine (HMAY.out W3 HS3.out.rot.ix).mono ?_
  rintro _ w4 ⟨rfl, hb4⟩
  have HS4 := Lib.hid (HS3.out.below hb4)
  clear hb4 HS3 HMAY
  obtain ⟨⟨p0, p1, p2⟩, _⟩ := HS4.out.swap.rx.rc
  cases hq : mayR ⟨e, l, nw⟩ with
  | false =>
    clear hm hq
    go_wp2_with fail
    go_ret2
    exact ⟨rfl, HS4.out.drop.drop⟩
  | true =>
    have hn : nw ≠ 0 := fun e0 => hm ⟨hq, e0⟩
    have hnb : (nw != 0) = true := by rw [bne_iff_ne]; exact hn
    clear hm hq hn
    go_wp2_with fail
    go_ret2
    exact ⟨rfl, HS4.out.drop.drop⟩
set_option maxRecDepth 100000 in
set_option maxHeartbeats 8000000 in
theorem open_new {e : Int} {l : List Int} {u : Value} (h : Sp w0 w (ch c ⟨R, []⟩ :: ix u l :: L)) (hR : 2000 ≤ R) (hm : mayR ⟨e, l, 0⟩ = true) (hlib : LibAt w0) (now : Int) :
    Calls Tryz.prog 8 #[.pointer (some ⟨c, 0, none⟩), .agg #[.int .i64 e, u, .int .i64 0], .int .i64 now] w fun y w' => ∃ x j, y = .returned (.tuple #[.pointer (some ⟨x, 0, none⟩), .int .i64 0]) ∧ CK w0 w' x j c R (beginS ⟨e, l, 0⟩ now now) (ix u l :: L) := by
  obtain ⟨ad, cap, rfl, _⟩ := h.swap.ix.shape
  have HSP := Lib.hid ((h.rxNew e 0 (.slice ad l.length cap)).swap)
  have HOP := Lib.hid (s_open_ok HSP.out hlib (by simp) (jst_new R (by omega)))
  have HLA := Lib.hid (fun j W (hW : Sp w0 W (jc c j (jst R none []) (jjr none []) :: rx w.heap.size e (.slice ad l.length cap) 0 :: ix (.slice ad l.length cap) l :: L)) => lasting_p hW JG.start hlib)
  have HMAY := Lib.hid (fun W (hW : IsAt W (.slice ad l.length cap) l) => romay_p e 0 _ l W hW (by have := mayR_len hm; omega))
  rw [hm] at HMAY
  have hl := mayR_len hm
  have HW := Lib.hid (fun j W (hW : Sp w0 W (jc c j (jst R none []) (jjr none []) :: rx w.heap.size e (.slice ad l.length cap) 0 :: ix (.slice ad l.length cap) l :: L)) => cwrite_p hW JG.start hR hm hW.rot.ix hlib)
  have HCP := Lib.hid (fun W (hW : IsAt W (.slice ad l.length cap) l) => ccopied_p e 0 _ l W hW (by omega))
  have HJG := Lib.hid (JG.start.wr hm (show folS Ro.zero ⟨e, l, 0⟩ = true from rfl))
  have HM := Lib.hid hm
  clear h hR hm hlib hl
  go_enter Tryz.func8, Tryz.ntmps8
  go_wp2_with fail
  generalize w.alloc _ = W at *
  refine HOP.out.mono ?_
  rintro _ w1 ⟨j, rfl, hs1⟩
  have HS1 := Lib.hid hs1
  clear hs1 HOP HSP
  go_wp2_with fail
  refine (HLA.out j w1 HS1.out).mono ?_
  rintro _ w2 ⟨a2, c2, rfl, _, hb2⟩
  rw [show (Ro.zero, true).1 = Ro.zero from rfl, show Ro.zero.l.length = 0 from rfl, show Ro.zero.ep = 0 from rfl, show Ro.zero.nw = 0 from rfl]
  have HSZ := Lib.hid (show w.heap.size < w2.heap.size by have := HS1.out.swap.rx.lt; have := hb2.size; omega)
  have HS3 := Lib.hid (HS1.out.below (hb2.alloc hb2.size (.cells #[.int .i64 0, .slice a2 0 c2, .int .i64 0] 24)))
  have hlt := HSZ.out
  obtain ⟨⟨p0, p1, p2⟩, _⟩ := (HS1.out.below hb2).swap.rx.rc
  clear hb2 HLA HS1
  go_wp2_with fail
  generalize w2.alloc _ = W3 at *
  clear hlt p0 p1 p2
  refine (HMAY.out W3 HS3.out.rot.ix).mono ?_
  rintro _ w4 ⟨rfl, hb4⟩
  have HS4 := Lib.hid (HS3.out.below hb4)
  clear hb4 HS3 HMAY
  obtain ⟨⟨p0, p1, p2⟩, _⟩ := HS4.out.swap.rx.rc
  go_wp2_with fail
  refine (HW.out j w4 HS4.out).mono ?_
  rintro _ w5 ⟨rfl, h5⟩
  have H5 := Lib.hid h5
  clear h5 HW HS4 p0 p1 p2
  obtain ⟨⟨p0, p1, p2⟩, _⟩ := H5.out.swap.rx.rc
  go_wp2_with fail
  refine (HCP.out w5 H5.out.rot.ix).mono ?_
  rintro _ w6 ⟨a6, c6, rfl, ho6, hb6⟩
  have HO6 := Lib.hid ho6
  have HB6 := Lib.hid hb6
  clear ho6 hb6 HCP
  go_wp2_with fail
  refine (begin_c (j := j) (e := e) (nw := 0) (l := l) HO6.out.at now now).mono ?_
  rintro _ w7 ⟨x, rfl, hc7, hi7, hx7, hb7⟩
  have HCK : Hid (CK w0 w7 x j c R (beginS ⟨e, l, 0⟩ now now) (ix (.slice ad l.length cap) l :: L)) := Lib.hid (by
    have hs9 : Sp w0 w5 (jc c j (wst R none [] ⟨e, l, 0⟩) (wjr none [] ⟨e, l, 0⟩) :: ix (.slice ad l.length cap) l :: L) := (H5.out.swap).drop
    exact CK.begin hs9 HJG.out HM.out (HB6.out.trans (hb7.mono HB6.out.size)) hc7 hi7 (Nat.le_trans HB6.out.size hx7) (fun g hg => by have := HO6.out.lt hg; omega))
  clear hc7 hi7 hx7 hb7
  go_wp2_with fail
  exact bodyPost_ret (v := .tuple #[.pointer (some ⟨x, 0, none⟩), .int .i64 0]) (by simp [results, Tryz.results8, go_sem]) rfl ⟨x, j, rfl, HCK.out⟩
end
end Go.Proofs.YtaacdggjkfmehaaGreatDoor
