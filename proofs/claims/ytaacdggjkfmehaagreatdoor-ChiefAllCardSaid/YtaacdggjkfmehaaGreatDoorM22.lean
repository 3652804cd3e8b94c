/-
  Contracts of the program, and what they rest on.
-/
import Derived.Test.YtaacdggjkfmehaaGreatDoorM21
import Derived.Test.YtaacdggjkfmehaaGreatDoorM18
import Derived.Test.YtaacdggjkfmehaaGreatDoorM15
namespace Go.Proofs.YtaacdggjkfmehaaGreatDoor
open Go.RowKit Go.Maps Go.Proofs.MapD Go.Proofs.Chest
structure Wq where
  seq : Int
  req : Int
  un : Int
  e : Int
  v : Int
  ep : Int
  a1 : Option Addr
  n1 : Nat
  c1 : Nat
  nw : Int
  a2 : Option Addr
  n2 : Nat
  c2 : Nat
  ss : Int
  a3 : Option Addr
  n3 : Nat
  c3 : Nat
  a4 : Option Addr
  n4 : Nat
  c4 : Nat
  l1 : Int
  l2 : Int
  l3 : Int
  l4 : Int
  l5 : Int
def wagg (k n to ep : Int) (q : Wq) : Value := .agg #[.int .i64 k, .int .i64 n, .int .i64 to, .int .i64 ep, .int .i64 q.seq, .int .i64 q.req, .int .i64 q.un, .int .i64 q.e, .int .i64 q.v, .int .i64 q.ep, .slice q.a1 q.n1 q.c1, .int .i64 q.nw, .slice q.a2 q.n2 q.c2, .int .i64 q.ss, .slice q.a3 q.n3 q.c3, .slice q.a4 q.n4 q.c4, .int .i64 q.l1, .int .i64 q.l2, .int .i64 q.l3, .int .i64 q.l4, .int .i64 q.l5]
def Wq.zero : Wq := ⟨0, 0, 0, 0, 0, 0, none, 0, 0, 0, none, 0, 0, 0, none, 0, 0, none, 0, 0, 0, 0, 0, 0, 0⟩
section
variable {w0 w : World} {x j c R : Nat} {s : Cs} {L : List It}
set_option maxRecDepth 100000 in
set_option maxHeartbeats 8000000 in
theorem step_p (h : CK w0 w x j c R s L) (hR : 2000 ≤ R) (hlib : LibAt w0) (k n to ep : Int) (q : Wq) (now : Int) (h0 : 0 ≤ now) (h1 : now ≤ 4611686018427387904) :
    Calls Tryz.prog 11 #[.pointer (some ⟨x, 0, none⟩), wagg k n to ep q, .int .i64 now] w fun y w' => ∃ u, y = .returned u ∧ LeaseOut (stepS s k n to ep now).2 s.r u (fun l => CK w0 w' x j c R (stepS s k n to ep now).1 (l ++ L)) := by
  have hb : Below w.heap.size w (w.alloc (.cells #[.int .i64 k, .int .i64 n, .int .i64 to, .int .i64 ep, .int .i64 q.seq, .int .i64 q.req, .int .i64 q.un, .int .i64 q.e, .int .i64 q.v, .int .i64 q.ep, .slice q.a1 q.n1 q.c1, .int .i64 q.nw, .slice q.a2 q.n2 q.c2, .int .i64 q.ss, .slice q.a3 q.n3 q.c3, .slice q.a4 q.n4 q.c4, .int .i64 q.l1, .int .i64 q.l2, .int .i64 q.l3, .int .i64 q.l4, .int .i64 q.l5] 46)) := (Below.refl _ _).alloc (Nat.le_refl _) _
  have HK := Lib.hid (h.below hb)
  have HD : Hid (Calls Tryz.prog 32 #[.pointer (some ⟨x, 0, none⟩)] (w.alloc (.cells #[.int .i64 k, .int .i64 n, .int .i64 to, .int .i64 ep, .int .i64 q.seq, .int .i64 q.req, .int .i64 q.un, .int .i64 q.e, .int .i64 q.v, .int .i64 q.ep, .slice q.a1 q.n1 q.c1, .int .i64 q.nw, .slice q.a2 q.n2 q.c2, .int .i64 q.ss, .slice q.a3 q.n3 q.c3, .slice q.a4 q.n4 q.c4, .int .i64 q.l1, .int .i64 q.l2, .int .i64 q.l3, .int .i64 q.l4, .int .i64 q.l5] 46)) fun y w' => y = .returned (.bool false) ∧ (w.alloc (.cells #[.int .i64 k, .int .i64 n, .int .i64 to, .int .i64 ep, .int .i64 q.seq, .int .i64 q.req, .int .i64 q.un, .int .i64 q.e, .int .i64 q.v, .int .i64 q.ep, .slice q.a1 q.n1 q.c1, .int .i64 q.nw, .slice q.a2 q.n2 q.c2, .int .i64 q.ss, .slice q.a3 q.n3 q.c3, .slice q.a4 q.n4 q.c4, .int .i64 q.l1, .int .i64 q.l2, .int .i64 q.l3, .int .i64 q.l4, .int .i64 q.l5] 46)) = w') := Lib.hid (by
    obtain ⟨v, v', b, rs, hg, hsp⟩ := HK.out
    exact down_p hsp.ck.1)
  have HB : Hid ((w.alloc (.cells #[.int .i64 k, .int .i64 n, .int .i64 to, .int .i64 ep, .int .i64 q.seq, .int .i64 q.req, .int .i64 q.un, .int .i64 q.e, .int .i64 q.v, .int .i64 q.ep, .slice q.a1 q.n1 q.c1, .int .i64 q.nw, .slice q.a2 q.n2 q.c2, .int .i64 q.ss, .slice q.a3 q.n3 q.c3, .slice q.a4 q.n4 q.c4, .int .i64 q.l1, .int .i64 q.l2, .int .i64 q.l3, .int .i64 q.l4, .int .i64 q.l5] 46)).cell? ⟨w.heap.size, 0, none⟩ = some (.int .i64 k) ∧ (w.alloc (.cells #[.int .i64 k, .int .i64 n, .int .i64 to, .int .i64 ep, .int .i64 q.seq, .int .i64 q.req, .int .i64 q.un, .int .i64 q.e, .int .i64 q.v, .int .i64 q.ep, .slice q.a1 q.n1 q.c1, .int .i64 q.nw, .slice q.a2 q.n2 q.c2, .int .i64 q.ss, .slice q.a3 q.n3 q.c3, .slice q.a4 q.n4 q.c4, .int .i64 q.l1, .int .i64 q.l2, .int .i64 q.l3, .int .i64 q.l4, .int .i64 q.l5] 46)).cell? ⟨w.heap.size, 1, none⟩ = some (.int .i64 n) ∧ (w.alloc (.cells #[.int .i64 k, .int .i64 n, .int .i64 to, .int .i64 ep, .int .i64 q.seq, .int .i64 q.req, .int .i64 q.un, .int .i64 q.e, .int .i64 q.v, .int .i64 q.ep, .slice q.a1 q.n1 q.c1, .int .i64 q.nw, .slice q.a2 q.n2 q.c2, .int .i64 q.ss, .slice q.a3 q.n3 q.c3, .slice q.a4 q.n4 q.c4, .int .i64 q.l1, .int .i64 q.l2, .int .i64 q.l3, .int .i64 q.l4, .int .i64 q.l5] 46)).cell? ⟨w.heap.size, 2, none⟩ = some (.int .i64 to) ∧ (w.alloc (.cells #[.int .i64 k, .int .i64 n, .int .i64 to, .int .i64 ep, .int .i64 q.seq, .int .i64 q.req, .int .i64 q.un, .int .i64 q.e, .int .i64 q.v, .int .i64 q.ep, .slice q.a1 q.n1 q.c1, .int .i64 q.nw, .slice q.a2 q.n2 q.c2, .int .i64 q.ss, .slice q.a3 q.n3 q.c3, .slice q.a4 q.n4 q.c4, .int .i64 q.l1, .int .i64 q.l2, .int .i64 q.l3, .int .i64 q.l4, .int .i64 q.l5] 46)).cell? ⟨w.heap.size, 3, none⟩ = some (.int .i64 ep)) := Lib.hid (by refine ⟨?_, ?_, ?_, ?_⟩ <;> go_simp)
  have HFULL := Lib.hid (fun (hn : n ≠ 0) => full_p HK.out hR hlib n ep hn)
  have HBEAT : Hid (∀ m : Nat, 1 ≤ m ∧ m ≤ 5 → Calls Tryz.prog 33 #[.pointer (some ⟨x, 0, none⟩), .int .i64 m, .int .i64 now] (w.alloc (.cells #[.int .i64 k, .int .i64 n, .int .i64 to, .int .i64 ep, .int .i64 q.seq, .int .i64 q.req, .int .i64 q.un, .int .i64 q.e, .int .i64 q.v, .int .i64 q.ep, .slice q.a1 q.n1 q.c1, .int .i64 q.nw, .slice q.a2 q.n2 q.c2, .int .i64 q.ss, .slice q.a3 q.n3 q.c3, .slice q.a4 q.n4 q.c4, .int .i64 q.l1, .int .i64 q.l2, .int .i64 q.l3, .int .i64 q.l4, .int .i64 q.l5] 46)) fun y w' => ∃ u, y = .returned u ∧ LeaseOut (beatS s m now).2 s.r u (fun l => CK w0 w' x j c R (beatS s m now).1 (l ++ L))) := Lib.hid (fun m hm => by
    obtain ⟨v, v', b, rs, hg, hsp⟩ := HK.out
    refine (beat_p hsp m hm now h0 h1 (by have := hg.len; omega)).mono ?_
    rintro y w' ⟨u, h1, h2⟩
    refine ⟨u, h1, h2.mono (fun l hl => ⟨v, v', b, rs, hg.beat m now, ?_⟩)⟩
    refine hl.perm ?_
    have hp := (List.perm_append_comm (l₁ := l) (l₂ := [cx x j v v' (beatS s m now).1, jc c j (jst R b rs) (jjr b rs)])).append_right L
    simpa using hp)
  clear h hb h0 h1 hlib
  unfold stepS wagg
  by_cases t1 : to = 0
  case neg =>
    have t1b : (to != 0) = true := by rw [bne_iff_ne]; exact t1
    rw [if_pos (.inl t1)]
    clear t1
    go_enter Tryz.func11, Tryz.ntmps11
    go_wp2_with fail
    generalize w.alloc _ = W at *
    refine HD.out.mono ?_
    rintro _ _ ⟨rfl, rfl⟩
    obtain ⟨b0, b1, b2, b3⟩ := HB.out
    go_wp2_with fail
    go_ret
    exact ⟨_, rfl, rfl, HK.out⟩
  have t1b : (to != 0) = false := by rw [bne_eq_false_iff_eq]; exact t1
  by_cases t2 : n < 1
  case pos =>
    rw [if_pos (.inr (.inl t2))]
    clear t1
    go_enter Tryz.func11, Tryz.ntmps11
    go_wp2_with fail
    generalize w.alloc _ = W at *
    refine HD.out.mono ?_
    rintro _ _ ⟨rfl, rfl⟩
    obtain ⟨b0, b1, b2, b3⟩ := HB.out
    go_wp2_with fail
    go_ret
    exact ⟨_, rfl, rfl, HK.out⟩
  by_cases t3 : 5 < n
  case pos =>
    rw [if_pos (.inr (.inr t3))]
    clear t1
    go_enter Tryz.func11, Tryz.ntmps11
    go_wp2_with fail
    generalize w.alloc _ = W at *
    refine HD.out.mono ?_
    rintro _ _ ⟨rfl, rfl⟩
    obtain ⟨b0, b1, b2, b3⟩ := HB.out
    go_wp2_with fail
    go_ret
    exact ⟨_, rfl, rfl, HK.out⟩
  rw [if_neg (by omega)]
  clear t1
  by_cases t4 : k = 1
  case pos =>
    subst t4
    rw [if_pos rfl]
    obtain ⟨m, rfl⟩ : ∃ m : Nat, n = m := ⟨n.toNat, by omega⟩
    have HBT := Lib.hid (HBEAT.out m (by omega))
    clear HBEAT HFULL
    go_enter Tryz.func11, Tryz.ntmps11
    go_wp2_with fail
    generalize w.alloc _ = W at *
    refine HD.out.mono ?_
    rintro _ _ ⟨rfl, rfl⟩
    obtain ⟨b0, b1, b2, b3⟩ := HB.out
    go_wp2_with fail
    refine HBT.out.mono ?_
    rintro _ w2 ⟨u, rfl, h2⟩
    have H2 := Lib.hid h2
    clear h2 HBT
    go_wp2_with fail
    go_ret
    exact ⟨_, rfl, H2.out⟩
  have t4b : (k == 1) = false := by rw [beq_eq_false_iff_ne]; exact t4
  rw [if_neg t4]
  clear t4
  by_cases t5 : k = 11
  case pos =>
    subst t5
    rw [if_pos rfl]
    have HFL := Lib.hid (HFULL.out (by omega))
    clear HBEAT HFULL
    go_enter Tryz.func11, Tryz.ntmps11
    go_wp2_with fail
    generalize w.alloc _ = W at *
    refine HD.out.mono ?_
    rintro _ _ ⟨rfl, rfl⟩
    obtain ⟨b0, b1, b2, b3⟩ := HB.out
    go_wp2_with fail
    refine HFL.out.mono ?_
    rintro _ w2 ⟨rfl, h2⟩
    have H2 := Lib.hid h2
    clear h2 HFL
    go_wp2_with fail
    go_ret
    exact ⟨_, rfl, rfl, H2.out⟩
  have t5b : (k == 11) = false := by rw [beq_eq_false_iff_ne]; exact t5
  rw [if_neg t5]
  clear t5
  case' _ =>
    go_enter Tryz.func11, Tryz.ntmps11
    go_wp2_with fail
    generalize w.alloc _ = W at *
    refine HD.out.mono ?_
    rintro _ _ ⟨rfl, rfl⟩
    obtain ⟨b0, b1, b2, b3⟩ := HB.out
    go_wp2_with fail
    go_ret
    exact ⟨_, rfl, rfl, HK.out⟩
end
end Go.Proofs.YtaacdggjkfmehaaGreatDoor
namespace Go.Proofs.YtaacdggjkfmehaaGreatDoor
open Go.RowKit Go.Maps Go.Proofs.MapD Go.Proofs.Chest
section
variable {w0 w : World} {c R : Nat} {L : List It}
theorem CK.begin {j x : Nat} {b : Option Ro} {rs : List Ro} {r : Ro} {now un : Int} {u : Value} {W w' : World} (h : Sp w0 W (jc c j (jst R b rs) (jjr b rs) :: L)) (hg : JG b rs r) (hm : mayR r = true) (hb : Below W.heap.size W w')
    (hc : CC w' x j u (.slice none 0 0) (beginS r now un)) (hi : IsAt w' u r.l) (hx : W.heap.size ≤ x) (hu : ∀ g, u.ownBlock = some g → W.heap.size ≤ g ∧ g ≠ x) : CK w0 w' x j c R (beginS r now un) L :=
  ⟨u, .slice none 0 0, b, rs, GS.begin hm hg now un, h.ckNew hb hc hi (.inl ⟨rfl, rfl⟩) hx hu (fun g hg => by cases hg)⟩
set_option maxRecDepth 100000 in
set_option maxHeartbeats 8000000 in
theorem open_last {b : Option Ro} {rs : List Ro} {r : Ro} {e nw : Int} {l : List Int} {u : Value} (h : Sp w0 w (ch c (jst R b rs) :: ix u l :: L)) (hg : JG b rs r) (hm : mayR r = true) (hlib : LibAt w0) (now : Int) (h0 : 0 ≤ now) (h1 : now ≤ 4611686018427387904) :
    Calls Tryz.prog 8 #[.pointer (some ⟨c, 0, none⟩), .agg #[.int .i64 e, u, .int .i64 nw], .int .i64 now] w fun y w' => ∃ x j, y = .returned (.tuple #[.pointer (some ⟨x, 0, none⟩), .int .i64 0]) ∧ CK w0 w' x j c R (beginS r now (now + 6)) (ix u l :: L) := by
  obtain ⟨ad, cap, rfl, _⟩ := h.swap.ix.shape
  have HSP := Lib.hid (h.below (ro_below w e (.slice ad l.length cap) nw 24))
  have HOP := Lib.hid (s_open_ok HSP.out hlib (by rw [jst_one]; decide) (jst_open hg))
  have HLA := Lib.hid (fun j W (hW : Sp w0 W (jc c j (jst R b rs) (jjr b rs) :: ix (.slice ad l.length cap) l :: L)) => lasting_p hW hg hlib)
  have HLS := Lib.hid (leased_p now h0 h1)
  have HGM := Lib.hid (And.intro hg hm)
  have hep : (0 : Int) < r.ep := by have := (may_ep hm).1; omega
  clear h hg hm hlib h0 h1
  obtain ⟨re, rl, rn⟩ := r
  dsimp only at hep
  go_enter Tryz.func8, Tryz.ntmps8
  go_wp2_with fail
  generalize w.alloc _ = W at *
  refine HOP.out.mono ?_
  rintro _ w1 ⟨j, rfl, hs1⟩
  have HS1 := Lib.hid hs1
  clear hs1 HOP HSP
  go_wp2_with fail
  refine (HLA.out j w1 HS1.out).mono ?_
  rintro _ w2 ⟨a2, c2, rfl, ho2, hb2⟩
  dsimp only at ho2 ⊢
  have HB2 := Lib.hid hb2
  have HO2 := Lib.hid ho2
  clear ho2 hb2 HLA
  have hx2 := HB2.out.alloc HB2.out.size (.cells #[.int .i64 re, .slice a2 rl.length c2, .int .i64 rn] 24)
  have HRC := Lib.hid (RC.new w2 re a2 rl.length c2 rn 24)
  have HB3 := Lib.hid hx2
  have HI3 := Lib.hid (HO2.out.at.below ((Below.refl _ w2).alloc (Nat.le_refl _) (.cells #[.int .i64 re, .slice a2 rl.length c2, .int .i64 rn] 24)))
  clear hx2
  go_wp2_with fail
  generalize w2.alloc _ = W3 at *
  have HBS := Lib.hid (show w2.heap.size ≥ w1.heap.size from HB2.out.size)
  have HOL := Lib.hid (fun g hg => HO2.out.lt (g := g) hg)
  generalize w2.heap.size = B2 at *
  have HS : Hid (∀ W' : World, Below W3.heap.size W3 W' → W'.cell? ⟨B2, 0, none⟩ = some (.int .i64 re) ∧ W'.cell? ⟨B2, 1, none⟩ = some (.slice a2 rl.length c2) ∧ W'.cell? ⟨B2, 2, none⟩ = some (.int .i64 rn)) := Lib.hid (fun W' hW => by
    obtain ⟨⟨h1, h2, h3⟩, _⟩ := HRC.out.below hW
    exact ⟨h1, h2, h3⟩)
  have HX0 := Lib.hid (Below.refl W3.heap.size W3).drew
  have hS0 := HS.out _ HX0.out
  refine wp_region_held (S := fun W' : World => W'.cell? ⟨B2, 0, none⟩ = some (.int .i64 re) ∧ W'.cell? ⟨B2, 1, none⟩ = some (.slice a2 rl.length c2) ∧ W'.cell? ⟨B2, 2, none⟩ = some (.int .i64 rn)) (by kernel_rfl) ?_
  change wpAnyH _ _ _ _ _ _ _ _ (World.drew _)
  refine wpAnyH_take (i := 0) (v := Value.pointer (some ⟨j, 0, none⟩)) rfl (by kernel_rfl) (by kernel_rfl) (by kernel_rfl) (fun _ _ _ h => h) (Or.inl ⟨by rfl, ?_⟩) hS0 ?_
  · intro w' ⟨s0, s1, s2⟩; go_simp
  refine wpAnyH_take (i := 1) (v := Value.agg #[.int .i64 re, .slice a2 rl.length c2, .int .i64 rn]) rfl (by kernel_rfl) (by kernel_rfl) (by kernel_rfl) (fun _ _ _ h => h) (Or.inl ⟨by rfl, ?_⟩) hS0 ?_
  · intro w' ⟨s0, s1, s2⟩; go_simp
  refine wpAnyH_take (i := 2) (v := Value.int .i64 now) rfl (by kernel_rfl) (by kernel_rfl) (by kernel_rfl) (fun _ _ _ h => h) (Or.inl ⟨by rfl, ?_⟩) hS0 ?_
  · intro w' ⟨s0, s1, s2⟩; go_simp
  refine wpAnyH_take (i := 3) (v := Value.int .i64 now) rfl (by kernel_rfl) (by kernel_rfl) (by kernel_rfl) (fun _ _ _ h => h) (Or.inl ⟨by rfl, ?_⟩) hS0 ?_
  · intro w' ⟨s0, s1, s2⟩; go_simp
  simp only [List.getElem_toArray, List.getElem_cons_succ, List.getElem_cons_zero, Act.put, List.setIfInBounds_toArray, List.set_cons_zero, List.set_cons_succ]
  clear hS0
  refine wpAnyH_ready (rs := [4]) (by kernel_rfl) (by simp) ?_
  refine AllReadyH.cons rfl (fun K hK => ?_) AllReadyH.nil
  simp only [List.getElem_toArray, List.getElem_cons_succ, List.getElem_cons_zero]
  go_simp
  refine (HLS.out _).mono ?_
  rintro _ _ ⟨rfl, rfl⟩
  refine hK.out _ _ (HS.out _ HX0.out) (fun _ => ?_)
  clear hK
  refine wpAnyH_ready (rs := [5]) (by kernel_rfl) (by simp) ?_
  refine AllReadyH.cons rfl (fun K hK => ?_) AllReadyH.nil
  simp only [List.getElem_toArray, List.getElem_cons_succ, List.getElem_cons_zero]
  go_simp
  refine (begin_c (j := j) (e := re) (nw := rn) (l := rl) (HI3.out.below HX0.out) now (now + 6)).mono ?_
  rintro _ w4 ⟨x, rfl, hc4, hi4, hx4, hb4⟩
  have hb4' : Below W3.heap.size W3 w4 := ⟨hb4.os, hb4.tape, hb4.output, hb4.size, hb4.block⟩
  have HX4 := Lib.hid hb4'
  have HC4 := Lib.hid hc4
  have HI4 := Lib.hid hi4
  have HXX := Lib.hid (show W3.heap.size ≤ x from hx4)
  clear hc4 hi4 hx4 hb4 hb4'
  refine hK.out _ _ (HS.out _ HX4.out) (fun _ => ?_)
  clear hK
  refine wpAnyH_ready (rs := [6]) (by kernel_rfl) (by simp) ?_
  refine AllReadyH.cons rfl (fun K hK => ?_) AllReadyH.nil
  simp only [List.getElem_toArray, List.getElem_cons_succ, List.getElem_cons_zero]
  go_simp
  refine hK.out _ _ (HS.out _ HX4.out) (fun _ => ?_)
  clear hK
  refine wpAnyH_ready (rs := [7]) (by kernel_rfl) (by simp) ?_
  refine AllReadyH.cons rfl (fun K hK => ?_) AllReadyH.nil
  simp only [List.getElem_toArray, List.getElem_cons_succ, List.getElem_cons_zero]
  go_simp
  refine hK.out _ _ (HS.out _ HX4.out) (fun _ => ?_)
  clear hK
  refine wpAnyH_done (by kernel_rfl) ?_ _
  go_wp2_with fail
  have hck := CK.begin HS1.out HGM.out.1 HGM.out.2 (HB3.out.trans (HX4.out.mono HB3.out.size)) HC4.out HI4.out (Nat.le_trans HB3.out.size HXX.out) (fun g hg => by
    have h1 := HOL.out g hg
    have h2 := HXX.out
    have h3 := HRC.out.lt
    exact ⟨h1.1, by omega⟩)
  exact bodyPost_ret (v := .tuple #[.pointer (some ⟨x, 0, none⟩), .int .i64 0]) (by simp [results, Tryz.results8, go_sem]) rfl ⟨x, j, rfl, hck⟩
set_option maxRecDepth 100000 in
set_option maxHeartbeats 8000000 in
theorem open_form {e nw : Int} {l : List Int} {u : Value} (h : Sp w0 w (ch c ⟨R, []⟩ :: ix u l :: L)) (hR : 11 ≤ R) (hl : l.length ≤ 1000) (hm : ¬ (mayR ⟨e, l, nw⟩ = true ∧ nw = 0)) (hlib : LibAt w0) (now : Int) :
    Calls Tryz.prog 8 #[.pointer (some ⟨c, 0, none⟩), .agg #[.int .i64 e, u, .int .i64 nw], .int .i64 now] w fun y w' => y = .returned (.tuple #[.pointer none, .int .i64 1]) ∧ Sp w0 w' (ix u l :: L) := by
  obtain ⟨ad, cap, rfl, _⟩ := h.swap.ix.shape
  have HSP := Lib.hid ((h.rxNew e nw (.slice ad l.length cap)).swap)
  have HOP := Lib.hid (s_open_ok HSP.out hlib (by simp) (jst_new R (by omega)))
  have HLA := Lib.hid (fun j W (hW : Sp w0 W (jc c j (jst R none []) (jjr none []) :: rx w.heap.size e (.slice ad l.length cap) nw :: ix (.slice ad l.length cap) l :: L)) => lasting_p hW JG.start hlib)
  have HMAY := Lib.hid (fun W (hW : IsAt W (.slice ad l.length cap) l) => romay_p e nw _ l W hW (by omega))
  clear h hR hl hlib
  go_enter Tryz.func8, Tryz.ntmps8
  go_wp2_with fail
  generalize w.alloc _ = W at *
  refine HOP.out.mono ?_
  rintro _ w1 ⟨j, rfl, hs1⟩
  have HS1 := Lib.hid hs1
  clear hs1 HOP HSP
  go_wp2_with fail
  refine (HLA.out j w1 HS1.out).mono ?_
  rintro _ w2 ⟨a2, c2, rfl, _, hb2⟩
  rw [show (Ro.zero, true).1 = Ro.zero from rfl, show Ro.zero.l.length = 0 from rfl, show Ro.zero.ep = 0 from rfl, show Ro.zero.nw = 0 from rfl]
  have HSZ := Lib.hid (show w.heap.size < w2.heap.size by have := HS1.out.swap.rx.lt; have := hb2.size; omega)
  have HS3 := Lib.hid (HS1.out.below (hb2.alloc hb2.size (.cells #[.int .i64 0, .slice a2 0 c2, .int .i64 0] 24)))
  have hlt := HSZ.out
  obtain ⟨⟨p0, p1, p2⟩, _⟩ := (HS1.out.below hb2).swap.rx.rc
  clear hb2 HLA HS1
  go_wp2_with fail
  generalize w2.alloc _ = W3 at *
  clear hlt p0 p1 p2
  refine (HMAY.out W3 HS3.out.rot.ix).mono ?_
  rintro _ w4 ⟨rfl, hb4⟩
  have HS4 := Lib.hid (HS3.out.below hb4)
  clear hb4 HS3 HMAY
  obtain ⟨⟨p0, p1, p2⟩, _⟩ := HS4.out.swap.rx.rc
  cases hq : mayR ⟨e, l, nw⟩ with
  | false =>
    clear hm hq
    go_wp2_with fail
    go_ret2
    exact ⟨rfl, HS4.out.drop.drop⟩
  | true =>
    have hn : nw ≠ 0 := fun e0 => hm ⟨hq, e0⟩
    have hnb : (nw != 0) = true := by rw [bne_iff_ne]; exact hn
    clear hm hq hn
    go_wp2_with fail
    go_ret2
    exact ⟨rfl, HS4.out.drop.drop⟩
set_option maxRecDepth 100000 in
set_option maxHeartbeats 8000000 in
theorem open_new {e : Int} {l : List Int} {u : Value} (h : Sp w0 w (ch c ⟨R, []⟩ :: ix u l :: L)) (hR : 2000 ≤ R) (hm : mayR ⟨e, l, 0⟩ = true) (hlib : LibAt w0) (now : Int) :
    Calls Tryz.prog 8 #[.pointer (some ⟨c, 0, none⟩), .agg #[.int .i64 e, u, .int .i64 0], .int .i64 now] w fun y w' => ∃ x j, y = .returned (.tuple #[.pointer (some ⟨x, 0, none⟩), .int .i64 0]) ∧ CK w0 w' x j c R (beginS ⟨e, l, 0⟩ now now) (ix u l :: L) := by
  obtain ⟨ad, cap, rfl, _⟩ := h.swap.ix.shape
  have HSP := Lib.hid ((h.rxNew e 0 (.slice ad l.length cap)).swap)
  have HOP := Lib.hid (s_open_ok HSP.out hlib (by simp) (jst_new R (by omega)))
  have HLA := Lib.hid (fun j W (hW : Sp w0 W (jc c j (jst R none []) (jjr none []) :: rx w.heap.size e (.slice ad l.length cap) 0 :: ix (.slice ad l.length cap) l :: L)) => lasting_p hW JG.start hlib)
  have HMAY := Lib.hid (fun W (hW : IsAt W (.slice ad l.length cap) l) => romay_p e 0 _ l W hW (by have := mayR_len hm; omega))
  rw [hm] at HMAY
  have hl := mayR_len hm
  have HW := Lib.hid (fun j W (hW : Sp w0 W (jc c j (jst R none []) (jjr none []) :: rx w.heap.size e (.slice ad l.length cap) 0 :: ix (.slice ad l.length cap) l :: L)) => cwrite_p hW JG.start hR hm hW.rot.ix hlib)
  have HCP := Lib.hid (fun W (hW : IsAt W (.slice ad l.length cap) l) => ccopied_p e 0 _ l W hW (by omega))
  have HJG := Lib.hid (JG.start.wr hm (show folS Ro.zero ⟨e, l, 0⟩ = true from rfl))
  have HM := Lib.hid hm
  clear h hR hm hlib hl
  go_enter Tryz.func8, Tryz.ntmps8
  go_wp2_with fail
  generalize w.alloc _ = W at *
  refine HOP.out.mono ?_
  rintro _ w1 ⟨j, rfl, hs1⟩
  have HS1 := Lib.hid hs1
  clear hs1 HOP HSP
  go_wp2_with fail
  refine (HLA.out j w1 HS1.out).mono ?_
  rintro _ w2 ⟨a2, c2, rfl, _, hb2⟩
  rw [show (Ro.zero, true).1 = Ro.zero from rfl, show Ro.zero.l.length = 0 from rfl, show Ro.zero.ep = 0 from rfl, show Ro.zero.nw = 0 from rfl]
  have HSZ := Lib.hid (show w.heap.size < w2.heap.size by have := HS1.out.swap.rx.lt; have := hb2.size; omega)
  have HS3 := Lib.hid (HS1.out.below (hb2.alloc hb2.size (.cells #[.int .i64 0, .slice a2 0 c2, .int .i64 0] 24)))
  have hlt := HSZ.out
  obtain ⟨⟨p0, p1, p2⟩, _⟩ := (HS1.out.below hb2).swap.rx.rc
  clear hb2 HLA HS1
  go_wp2_with fail
  generalize w2.alloc _ = W3 at *
  clear hlt p0 p1 p2
  refine (HMAY.out W3 HS3.out.rot.ix).mono ?_
  rintro _ w4 ⟨rfl, hb4⟩
  have HS4 := Lib.hid (HS3.out.below hb4)
  clear hb4 HS3 HMAY
  obtain ⟨⟨p0, p1, p2⟩, _⟩ := HS4.out.swap.rx.rc
  go_wp2_with fail
  refine (HW.out j w4 HS4.out).mono ?_
  rintro _ w5 ⟨rfl, h5⟩
  have H5 := Lib.hid h5
  clear h5 HW HS4 p0 p1 p2
  obtain ⟨⟨p0, p1, p2⟩, _⟩ := H5.out.swap.rx.rc
  go_wp2_with fail
  refine (HCP.out w5 H5.out.rot.ix).mono ?_
  rintro _ w6 ⟨a6, c6, rfl, ho6, hb6⟩
  have HO6 := Lib.hid ho6
  have HB6 := Lib.hid hb6
  clear ho6 hb6 HCP
  go_wp2_with fail
  refine (begin_c (j := j) (e := e) (nw := 0) (l := l) HO6.out.at now now).mono ?_
  rintro _ w7 ⟨x, rfl, hc7, hi7, hx7, hb7⟩
  have HCK : Hid (CK w0 w7 x j c R (beginS ⟨e, l, 0⟩ now now) (ix (.slice ad l.length cap) l :: L)) := Lib.hid (by
    have hs9 : Sp w0 w5 (jc c j (wst R none [] ⟨e, l, 0⟩) (wjr none [] ⟨e, l, 0⟩) :: ix (.slice ad l.length cap) l :: L) := (H5.out.swap).drop
    exact CK.begin hs9 HJG.out HM.out (HB6.out.trans (hb7.mono HB6.out.size)) hc7 hi7 (Nat.le_trans HB6.out.size hx7) (fun g hg => by have := HO6.out.lt hg; omega))
  clear hc7 hi7 hx7 hb7
  go_wp2_with fail
  exact bodyPost_ret (v := .tuple #[.pointer (some ⟨x, 0, none⟩), .int .i64 0]) (by simp [results, Tryz.results8, go_sem]) rfl ⟨x, j, rfl, HCK.out⟩
end
end Go.Proofs.YtaacdggjkfmehaaGreatDoor
namespace Go.Proofs.YtaacdggjkfmehaaGreatDoor
open Go.RowKit Go.Maps Go.Proofs.MapD Go.Proofs.Chest
def BegunTrue4 : Prop := ∀ w, LibAt w → Calls Tryz.prog 44 #[] w fun e w' => e = .returned (.bool true) ∧ Below w.heap.size w w'
theorem begun3_p (w : World) (h : LibAt w) : Calls Tryz.prog 70 #[] w fun e w' => e = .returned (.bool true) ∧ Below w.heap.size w w' := by
  have HB := Lib.hid (begun3_true w h)
  clear h
  go_enter Tryz.func70, Tryz.ntmps70
  go_wp2_with (go_at_call 96; refine HB.out.mono ?_; rintro _ w1 ⟨rfl, hb⟩)
  go_ret
  exact ⟨rfl, hb⟩
theorem lit_one (w : World) (s : ByteArray) (ty : TypeId) : Reads (w.alloc (.cells #[.string s] ty)) (.slice (some ⟨w.heap.size, 0, none⟩) 1 1) [s] := by
  refine ⟨_, 1, rfl, fun _ => ⟨w.heap.size, 0, rfl, Nat.le_refl _, fun j x hj => ?_⟩⟩
  match j, hj with
  | 0, hj =>
    obtain rfl : s = x := by simpa using hj
    go_simp
theorem extract_front (a b : ByteArray) (k : Nat) : (a ++ b).extract 0 (a.size + k) = a ++ b.extract 0 k := by
  apply ByteArray.ext
  apply Array.ext'
  rw [Lib.extract_data, append_toList, append_toList, Lib.extract_data]
  simp only [List.drop_zero, Nat.sub_zero]
  have h1 : a.data.toList.length = a.size := rfl
  rw [List.take_append, List.take_of_length_le (by omega), h1, Nat.add_sub_cancel_left]
def bE : ByteArray := ⟨#[]⟩
def bOne : ByteArray := ⟨#[111, 110, 101]⟩
def bTwo : ByteArray := ⟨#[116, 119, 111]⟩
def bState : ByteArray := ⟨#[115, 116, 97, 116, 101]⟩
def bAb : ByteArray := ⟨#[97, 98]⟩
theorem small_leaf {s : ByteArray} {n : Nat} (h : s.size = n) (hn : n < 10) : (leafS s).size = 11 + n := by
  rw [leafS_size (by omega), h, Lib.nDigits_small hn]
theorem z_E : (leafS bE).size = 11 := small_leaf (n := 0) rfl (by decide)
theorem z_one : (leafS bOne).size = 14 := small_leaf (n := 3) rfl (by decide)
theorem z_two : (leafS bTwo).size = 14 := small_leaf (n := 3) rfl (by decide)
theorem z_state : (leafS bState).size = 16 := small_leaf (n := 5) rfl (by decide)
theorem z_ab : (leafS bAb).size = 13 := small_leaf (n := 2) rfl (by decide)
def tA : ByteArray := leavesS [bE, bOne]
def tB : ByteArray := tA ++ leafS bTwo
theorem z_A : tA.size = 25 := by
  show (leafS bE ++ (leafS bOne ++ ⟨#[]⟩)).size = 25
  rw [ByteArray.size_append, ByteArray.size_append, z_E, z_one]
  rfl
theorem z_B : tB.size = 39 := by
  show (tA ++ leafS bTwo).size = 39
  rw [ByteArray.size_append, z_A, z_two]
theorem t_A : leafS bE ++ leafS bOne = tA := by
  show _ = leafS bE ++ (leafS bOne ++ ⟨#[]⟩)
  rw [append_none]
theorem b_open : openS ⟨10000, []⟩ = (0, one 9989 (leafS bE) 11 true, ⟨bE, [], 11, false⟩) := open_none 10000 (by decide)
theorem b_add1 : addS (one 9989 (leafS bE) 11 true) ⟨bE, [], 11, false⟩ bOne true = (0, one 9975 tA 25 true, ⟨bE, [bOne], 25, false⟩) := by
  rw [add_one 9989 (leafS bE) 11 true bE [] 11 bOne (by decide) (by rw [z_one]; decide) true, z_one, t_A, z_A]
  rfl
theorem b_add2 : addS (one 9975 tA 25 true) ⟨bE, [bOne], 25, false⟩ bTwo false = (0, one 9961 tB 25 true, ⟨bE, [bOne, bTwo], 39, false⟩) := by
  rw [add_one 9975 tA 25 true bE [bOne] 25 bTwo (by decide) (by rw [z_two]; decide) false, z_two]
  rfl
theorem b_small : ∀ x ∈ [bE, bOne], x.size ≤ 400000 := by
  intro x hx
  simp only [List.mem_cons, List.not_mem_nil, or_false] at hx
  rcases hx with rfl | rfl <;> decide
theorem b_front (k : Nat) (hk : k < 14) (room p : Nat) : ∃ st', openS (one room (tB.extract 0 (25 + k)) p true) = (0, st', ⟨bE, [bOne], 25, false⟩) := by
  have e1 : tB.extract 0 (25 + k) = leavesS [bE, bOne] ++ (leafS bTwo).extract 0 k := by
    have := extract_front tA (leafS bTwo) k
    rw [z_A] at this
    exact this
  rw [e1, open_one room p true bE [bOne] _ b_small (.inr (by rw [turn_front bTwo (by decide) k (by rw [z_two]; exact hk)]))]
  exact ⟨_, by rw [show (leavesS [bE, bOne]).size = 25 from z_A]⟩
theorem b_t0 : ∃ st', openS (tear (one 9961 tB 25 true) 0) = (0, st', ⟨bE, [bOne], 25, false⟩) := by
  rw [tear_one]
  have e : stays ⟨tB, 25, true⟩ 0 = 25 + 0 := by
    unfold stays
    simp only [z_B]
    rfl
  rw [e]
  exact b_front 0 (by decide) _ _
theorem b_t5 : ∃ st', openS (tear (one 9961 tB 25 true) 5) = (0, st', ⟨bE, [bOne], 25, false⟩) := by
  rw [tear_one]
  have e : stays ⟨tB, 25, true⟩ 5 = 25 + 5 := by
    unfold stays
    simp only [z_B]
    rfl
  rw [e]
  exact b_front 5 (by decide) _ _
theorem b_lay : layS (one 9961 tB 25 true) ⟨bE, [bOne, bTwo], 39, false⟩ bState = (0, one 9984 (leafS bState) 16 true, ⟨bState, [], 16, false⟩) := by
  rw [lay_one 9961 tB 25 true bE [bOne, bTwo] 39 bState (by decide) (by rw [z_state]; decide), z_state, z_B]
theorem b_t3 : ∃ st', openS (tear (one 9984 (leafS bState) 16 true) 0) = (0, st', ⟨bState, [], 16, false⟩) := by
  rw [tear_one]
  have e : stays ⟨leafS bState, 16, true⟩ 0 = (leafS bState).size := by
    unfold stays
    simp only [z_state]
    rfl
  have e2 : leafS bState = leavesS [bState] ++ ⟨#[]⟩ := by rw [leaves_one, append_none]
  rw [e, extract_all]
  conv => enter [1, st', 1, 1]; rw [e2]
  rw [open_one _ _ true bState [] ⟨#[]⟩ (by intro x hx; simp at hx; subst hx; decide) (.inl rfl)]
  exact ⟨_, by rw [leaves_one, z_state]⟩
theorem b_turn : turnS (leafS bAb ++ ⟨#[122]⟩) = (⟨#[97, 98]⟩, 13, 0) := by
  show _ = (bAb, 13, 0)
  rw [turn_leaf bAb ⟨#[122]⟩ (by decide), z_ab]
theorem y_new : (⟨(min (max (10000 : Int) 0) 1048576).toNat, []⟩ : St) = ⟨10000, []⟩ := by kernel_rfl
set_option maxRecDepth 100000 in
set_option maxHeartbeats 8000000 in
theorem begun4_true : BegunTrue4 := by
  intro w hL
  have HL := Lib.hid hL
  clear hL
  go_enter Tryz.func44, Tryz.ntmps44
  go_wp2_with fail
  refine (s_new 10000 (Sp.start w)).mono ?_
  rintro _ w1 ⟨c, rfl, h1⟩
  rw [y_new] at h1
  have H1 := Lib.hid h1
  clear h1
  go_wp2_with fail
  refine (s_open_ok H1.out HL.out (by decide) b_open).mono ?_
  rintro _ w2 ⟨j, rfl, h2⟩
  have H2 := Lib.hid h2
  clear h2
  go_wp2_with fail
  refine (s_add H2.out HL.out (by decide) (by decide) (by decide) bOne true).mono ?_
  rintro _ w3 ⟨rfl, h3⟩
  rw [b_add1] at h3 ⊢
  have H3 := Lib.hid h3
  clear h3
  go_wp2_with fail
  refine (s_add H3.out HL.out (by decide) (by decide) (by decide) bTwo false).mono ?_
  rintro _ w4 ⟨rfl, h4⟩
  rw [b_add2] at h4 ⊢
  have H4 := Lib.hid h4
  clear h4
  go_wp2_with fail
  refine (s_jtear H4.out (by decide) 0).mono ?_
  rintro _ w5 ⟨d1, rfl, h5⟩
  have H5 := Lib.hid h5
  clear h5
  go_wp2_with fail
  obtain ⟨st5, e5⟩ := b_t0
  refine (s_open_ok H5.out HL.out (Nat.le_trans (len_tear _ _) (by decide)) e5).mono ?_
  rintro _ w6 ⟨k1, rfl, h6⟩
  have H6 := Lib.hid h6.swap
  clear h6
  go_wp2_with fail
  refine (s_jtear H6.out (by decide) 5).mono ?_
  rintro _ w7 ⟨d2, rfl, h7⟩
  have H7 := Lib.hid h7
  clear h7
  go_wp2_with fail
  obtain ⟨st7, e7⟩ := b_t5
  refine (s_open_ok H7.out HL.out (Nat.le_trans (len_tear _ _) (by decide)) e7).mono ?_
  rintro _ w8 ⟨k2, rfl, h8⟩
  have H8 := Lib.hid h8.swap
  clear h8
  go_wp2_with fail
  refine (s_lay H8.out HL.out (by decide) bState).mono ?_
  rintro _ w9 ⟨rfl, h9⟩
  rw [b_lay] at h9 ⊢
  have H9 := Lib.hid h9
  clear h9
  go_wp2_with fail
  refine (s_jtear H9.out (by decide) 0).mono ?_
  rintro _ w10 ⟨d3, rfl, h10⟩
  have H10 := Lib.hid h10
  clear h10
  go_wp2_with fail
  obtain ⟨st10, e10⟩ := b_t3
  refine (s_open_ok H10.out HL.out (Nat.le_trans (len_tear _ _) (by decide)) e10).mono ?_
  rintro _ w11 ⟨k3, rfl, h11⟩
  have H11 := Lib.hid h11
  clear h11
  go_wp2_with fail
  have J1 := jleaf_p bAb w11 (HL.out.below H11.out.bl)
  have JT := fun w12 (h12 : LibAt w12) => jturn_p (leafS bAb ++ ⟨#[122]⟩) (by
    have h1 : (⟨#[122]⟩ : ByteArray).size = 1 := rfl
    rw [ByteArray.size_append, z_ab, h1]
    omega) w12 h12
  rw [b_turn] at JT
  have hLz := z_ab
  generalize leafS bAb = LA at *
  have HJ1 := Lib.hid J1
  have HJT := Lib.hid JT
  clear J1 JT
  refine HJ1.out.mono ?_
  rintro _ w12 ⟨rfl, hb12⟩
  have H12 := Lib.hid (H11.out.below hb12)
  clear hb12
  go_wp2_with fail
  refine (HJT.out w12 (HL.out.below H12.out.bl)).mono ?_
  rintro _ w13 ⟨rfl, hb13⟩
  have H13 := Lib.hid (H12.out.below hb13)
  clear hb13
  go_wp2_with fail
  refine (begun3_p w13 (HL.out.below H13.out.bl)).mono ?_
  rintro _ w14 ⟨rfl, hb14⟩
  have H14 := Lib.hid ((H13.out.below hb14).perm (List.perm_append_comm (l₁ := [_, _, _]) (l₂ := [_])))
  clear hb14
  go_wp2_with fail
  refine (s_records H14.out (by decide)).mono ?_
  rintro _ w15 ⟨v1, rfl, hr15, _, h15⟩
  have H15 := Lib.hid (And.intro hr15 h15)
  clear hr15 h15
  go_wp2_with fail
  refine (jeq_p (H15.out.1.below ((Below.refl _ _).alloc (Nat.le_refl _) _)) (lit_one w15 bOne 9) (by decide)).mono ?_
  rintro _ w16 ⟨rfl, hb16⟩
  rw [decide_eq_true (rfl : [bOne] = [bOne])]
  have H16 := Lib.hid (((H15.out.2.below ((Below.refl _ _).alloc (Nat.le_refl _) _)).below hb16).perm (List.perm_append_comm (l₁ := [_, _, _]) (l₂ := [_])))
  clear hb16
  go_wp2_with fail
  refine (s_records H16.out (by decide)).mono ?_
  rintro _ w17 ⟨v2, rfl, hr17, _, h17⟩
  have H17 := Lib.hid (And.intro hr17 h17)
  clear hr17 h17
  go_wp2_with fail
  refine (jeq_p (H17.out.1.below ((Below.refl _ _).alloc (Nat.le_refl _) _)) (lit_one w17 bOne 9) (by decide)).mono ?_
  rintro _ w18 ⟨rfl, hb18⟩
  rw [decide_eq_true (rfl : [bOne] = [bOne])]
  have H18 := Lib.hid ((H17.out.2.below ((Below.refl _ _).alloc (Nat.le_refl _) _)).below hb18).rot
  clear hb18
  go_wp2_with fail
  refine (s_first H18.out).mono ?_
  rintro _ _ ⟨e, rfl⟩
  rw [show (Ending.returned (Value.string (⟨bState, [], 16, false⟩ : Jr).first)) = .returned (.string ⟨#[115, 116, 97, 116, 101]⟩) from rfl] at e
  subst e
  go_wp2_with fail
  refine (s_records H18.out (by decide)).mono ?_
  rintro _ w19 ⟨v3, rfl, ⟨ad3, cap3, rfl, _⟩, _, h19⟩
  have H19 := Lib.hid (h19.perm (List.perm_append_comm (l₁ := [_, _, _]) (l₂ := [_])))
  clear h19
  go_wp2_with fail
  refine (s_first H19.out).mono ?_
  rintro _ _ ⟨e, rfl⟩
  rw [show (Ending.returned (Value.string (⟨bState, [], 16, false⟩ : Jr).first)) = .returned (.string ⟨#[115, 116, 97, 116, 101]⟩) from rfl] at e
  subst e
  go_wp2_with fail
  refine (s_long H19.out).mono ?_
  rintro _ _ ⟨rfl, rfl⟩
  go_wp2_with fail
  go_ret
  exact ⟨rfl, H19.out.bl⟩
end Go.Proofs.YtaacdggjkfmehaaGreatDoor
namespace Go.Proofs.YtaacdggjkfmehaaGreatDoor
open Go.RowKit Go.Maps Go.Proofs.MapD Go.Proofs.Chest
theorem Sp.mem {w0 w : World} {i : It} : ∀ {L : List It}, Sp w0 w L → i ∈ L → ∃ F, i.p w F
  | a :: L, h, hi => by
    rcases List.mem_cons.1 hi with rfl | hi
    · exact h.get
    · exact Sp.mem h.drop hi
theorem ck_tear {w0 w : World} {x j c R : Nat} {s : Cs} {L : List It} (h : CK w0 w x j c R s L) (n : Int) :
    Calls Tryz.prog 15 #[.pointer (some ⟨c, 0, none⟩), .int .i64 n] w fun y w' => ∃ d b rs v v', y = .returned (.pointer (some ⟨d, 0, none⟩)) ∧ GS s b rs ∧ Sp w0 w' (ch d (jst R b rs) :: cx x j v v' s :: jc c j (jst R b rs) (jjr b rs) :: L) := by
  obtain ⟨v, v', b, rs, hg, hsp⟩ := h
  refine (s_jtear hsp.swap (by rw [jst_one]; decide) n).mono ?_
  rintro y w' ⟨d, rfl, h⟩
  rw [jst_tear] at h
  exact ⟨d, b, rs, v, v', rfl, hg, h.perm (.cons _ (.swap _ _ _))⟩
theorem begun4_p (w : World) (h : LibAt w) : Calls Tryz.prog 21 #[] w fun e w' => e = .returned (.bool true) ∧ Below w.heap.size w w' := by
  have HB := Lib.hid (begun4_true w h)
  clear h
  go_enter Tryz.func21, Tryz.ntmps21
  go_wp2_with (go_at_call 44; refine HB.out.mono ?_; rintro _ w1 ⟨rfl, hb⟩)
  go_ret
  exact ⟨rfl, hb⟩
theorem begun9_q (w : World) : Calls Tryz.prog 22 #[] w fun e w' => e = .returned (.bool true) ∧ Below w.heap.size w w' := by
  have HB := Lib.hid (begun9_p w)
  go_enter Tryz.func22, Tryz.ntmps22
  go_wp2_with (go_at_call 45; refine HB.out.mono ?_; rintro _ w1 ⟨rfl, hb⟩)
  go_ret
  exact ⟨rfl, hb⟩
theorem field0 (e nw : Int) (ad : Option Addr) (n cap : Nat) (W : World) : (Instr.field 24 (.agg #[.int .i64 e, .slice ad n cap, .int .i64 nw]) 0).run Tryz.prog W = .ok (.int .i64 e) W := by kernel_rfl
theorem field2 (e nw : Int) (ad : Option Addr) (n cap : Nat) (W : World) : (Instr.field 24 (.agg #[.int .i64 e, .slice ad n cap, .int .i64 nw]) 2).run Tryz.prog W = .ok (.int .i64 nw) W := by kernel_rfl
def BegunTrue10 : Prop := ∀ w, LibAt w → Calls Tryz.prog 5 #[] w fun e w' => e = .returned (.bool true) ∧ Below w.heap.size w w'
theorem r_new : (min (max (1048576 : Int) 0) 1048576).toNat = 1048576 := by decide
theorem r_new2 : (min (max (1000 : Int) 0) 1048576).toNat = 1000 := by decide
def q0 : Cs := beginS ⟨1, [1, 2], 0⟩ 5 5
def q1 : Cs := (stepS q0 1 2 0 1 6).1
def q2 : Cs := (stepS q1 1 3 0 0 6).1
def q3 : Cs := tickS q2 7
def q4 : Cs := tickS q3 12
def q5 : Cs := tickS q4 13
theorem q_step1 : stepS q0 1 2 0 1 6 = (q1, some (2, 12)) := by kernel_rfl
theorem q_step2 : stepS q1 1 3 0 0 6 = (q2, none) := by kernel_rfl
theorem q_chg3 : q3.chg = true := by kernel_rfl
theorem q_chg4 : q4.chg = true := by kernel_rfl
theorem q_five : q5 = ⟨⟨2, [1, 2, 3], 3⟩, Ro.zero, 12, allH 13, 0, false⟩ := by kernel_rfl
set_option maxRecDepth 100000 in
set_option maxHeartbeats 16000000 in
theorem begun10_true : BegunTrue10 := by
  intro w hL
  have HL := Lib.hid hL
  clear hL
  go_enter Tryz.func5, Tryz.ntmps5
  go_wp2_with fail
  refine (s_new 1048576 (Sp.start w)).mono ?_
  rintro _ w1 ⟨c, rfl, h1⟩
  rw [r_new] at h1
  have hi1 := isat_two w1 1 2
  have H1 := Lib.hid ((h1.ixNew ((Below.refl _ _).alloc (Nat.le_refl _) _) hi1 (by intro g hg; cases hg; exact Nat.le_refl _)).swap)
  clear h1 hi1
  go_wp2_with fail
  generalize w1.alloc _ = W1 at *
  refine (open_new H1.out (by decide) (by kernel_rfl) HL.out 5).mono ?_
  rintro _ w2 ⟨x, j, rfl, h2⟩
  have H2 : Hid (CK w w2 x j c 1048576 q0 [ix (.slice (some ⟨w1.heap.size, 0, none⟩) 2 2) [1, 2]]) := Lib.hid h2
  clear h2 H1
  go_wp2_with fail
  refine (step_p H2.out (by decide) HL.out 1 2 0 1 Wq.zero 6 (by decide) (by decide)).mono ?_
  rw [q_step1]
  rintro _ w3 ⟨u3, rfl, g3, ad3, cap3, rfl, h3⟩
  have H3 := Lib.hid h3
  clear h3 H2
  rw [show q0.r = ⟨1, [1, 2], 0⟩ from rfl] at H3
  go_wp2_with fail
  refine (step_p H3.out (by decide) HL.out 1 3 0 0 Wq.zero 6 (by decide) (by decide)).mono ?_
  rw [q_step2]
  rintro _ w4 ⟨u4, rfl, rfl, h4⟩
  have H4 := Lib.hid h4
  clear h4 H3
  go_wp2_with fail
  refine (tick_p H4.out (by decide) HL.out 7 (by decide) (by decide)).mono ?_
  rintro _ w5 ⟨rfl, h5⟩
  have H5 : Hid (CK w w5 x j c 1048576 q3 _) := Lib.hid h5
  clear h5 H4
  go_wp2_with fail
  have hc5 : ∃ v v', CC w5 x j v v' q3 := by
    obtain ⟨v, v', b, rs, hg, hsp⟩ := H5.out
    exact ⟨v, v', hsp.ck.1⟩
  obtain ⟨v5, v5', hc5⟩ := hc5
  refine (changing_p hc5).mono ?_
  rw [q_chg3]
  clear hc5
  rintro _ _ ⟨rfl, rfl⟩
  go_wp2_with fail
  refine (tick_p H5.out (by decide) HL.out 12 (by decide) (by decide)).mono ?_
  rintro _ w6 ⟨rfl, h6⟩
  have H6 : Hid (CK w w6 x j c 1048576 q4 _) := Lib.hid h6
  clear h6 H5
  go_wp2_with fail
  have hc6 : ∃ v v', CC w6 x j v v' q4 := by
    obtain ⟨v, v', b, rs, hg, hsp⟩ := H6.out
    exact ⟨v, v', hsp.ck.1⟩
  obtain ⟨v6, v6', hc6⟩ := hc6
  refine (changing_p hc6).mono ?_
  rw [q_chg4]
  clear hc6
  rintro _ _ ⟨rfl, rfl⟩
  go_wp2_with fail
  refine (tick_p H6.out (by decide) HL.out 13 (by decide) (by decide)).mono ?_
  rintro _ w7 ⟨rfl, h7⟩
  have H7 : Hid (CK w w7 x j c 1048576 q5 _) := Lib.hid h7
  clear h7 H6
  go_wp2_with fail
  refine (ck_tear H7.out 0).mono ?_
  rintro _ w8 ⟨d, b8, rs8, v8, v8', rfl, hg8, h8⟩
  have HG8 := Lib.hid hg8
  have H8 := Lib.hid h8.ixNil.swap
  clear hg8 h8 H7
  go_wp2_with fail
  refine (open_last H8.out HG8.out.jg HG8.out.may HL.out 20 (by decide) (by decide)).mono ?_
  rintro _ w9 ⟨y, jy, rfl, h9⟩
  rw [q_five] at h9
  have H9 := Lib.hid h9
  clear h9 H8
  go_wp2_with fail
  rw [show (20 : Int) + 6 = 26 from rfl] at H9
  obtain ⟨v9, v9', b9, rs9, hg9, hsp9⟩ := H9.out
  clear H9 hg9
  obtain ⟨LL, hLL⟩ : ∃ LL, LL = cx y jy v9 v9' (beginS ⟨2, [1, 2, 3], 3⟩ 20 26) :: jc d jy (jst 1048576 b9 rs9) (jjr b9 rs9) :: ix (.slice none 0 0) [] :: cx x j v8 v8' ⟨⟨2, [1, 2, 3], 3⟩, Ro.zero, 12, allH 13, 0, false⟩ :: jc c j (jst 1048576 b8 rs8) (jjr b8 rs8) :: wx g3 (wcells 2 12 ⟨1, [1, 2], 0⟩ ad3 cap3) :: ix (.slice ad3 2 cap3) [1, 2] :: [ix (.slice (some ⟨w1.heap.size, 0, none⟩) 2 2) [1, 2]] := ⟨_, rfl⟩
  have hsp9 : Sp w w9 LL := by rw [hLL]; exact hsp9
  have HM : Hid (∀ W, Sp w W LL → (CC W x j v8 v8' ⟨⟨2, [1, 2, 3], 3⟩, Ro.zero, 12, allH 13, 0, false⟩ ∧ IsAt W v8 [1, 2, 3]) ∧ (CC W y jy v9 v9' (beginS ⟨2, [1, 2, 3], 3⟩ 20 26) ∧ IsAt W v9 [1, 2, 3]) ∧ (W.cell? ⟨g3, 0, none⟩ = some (.int .i64 2) ∧ W.cell? ⟨g3, 2, none⟩ = some (.int .i64 2) ∧ W.cell? ⟨g3, 6, none⟩ = some (.int .i64 12))) := Lib.hid (fun W h => by
    rw [hLL] at h
    obtain ⟨_, h1, h2, _⟩ := h.mem (i := cx x j v8 v8' ⟨⟨2, [1, 2, 3], 3⟩, Ro.zero, 12, allH 13, 0, false⟩) (.tail _ (.tail _ (.tail _ (.head _))))
    obtain ⟨_, h3, h4, _⟩ := h.mem (i := cx y jy v9 v9' (beginS ⟨2, [1, 2, 3], 3⟩ 20 26)) (.head _)
    obtain ⟨_, h5, _⟩ := h.mem (i := wx g3 (wcells 2 12 ⟨1, [1, 2], 0⟩ ad3 cap3)) (.tail _ (.tail _ (.tail _ (.tail _ (.tail _ (.head _))))))
    exact ⟨⟨h1, h2⟩, ⟨h3, h4⟩, by rw [cell_block h5]; rfl, by rw [cell_block h5]; rfl, by rw [cell_block h5]; rfl⟩)
  clear HG8 hLL
  refine (s_new 1000 hsp9).mono ?_
  rintro _ w10 ⟨c2, rfl, h10⟩
  rw [r_new2] at h10
  have H10 := Lib.hid h10.ixNil.swap
  clear h10 hsp9
  go_wp2_with fail
  refine (open_form H10.out (by decide) (by decide) (by decide) HL.out 0).mono ?_
  rintro _ w11 ⟨rfl, h11⟩
  have H11 := Lib.hid h11.drop
  clear h11 H10
  go_wp2_with fail
  refine (begun4_p w11 (HL.out.below H11.out.bl)).mono ?_
  rintro _ w12 ⟨rfl, hb⟩
  have H12 := Lib.hid (H11.out.below hb)
  clear hb
  go_wp2_with fail
  refine (begun9_q w12).mono ?_
  rintro _ w13 ⟨rfl, hb⟩
  have H13 := Lib.hid (H12.out.below hb)
  clear hb
  obtain ⟨k0, k1, k2⟩ := (HM.out w13 H13.out).2.2
  have f0 := field0
  have f2 := field2
  go_wp2_with fail
  refine (changing_p (HM.out w13 H13.out).1.1).mono ?_
  rw [show (⟨⟨2, [1, 2, 3], 3⟩, Ro.zero, 12, allH 13, 0, false⟩ : Cs).chg = false by kernel_rfl]
  rintro _ _ ⟨rfl, rfl⟩
  go_wp2_with fail
  refine (croster_p (HM.out w13 H13.out).1.1 (HM.out w13 H13.out).1.2 (by decide)).mono ?_
  dsimp only
  rintro _ w14 ⟨_, _, rfl, _, hb⟩
  have H14 := Lib.hid (H13.out.below hb)
  clear hb
  go_wp2_with fail
  refine (croster_p (HM.out w14 H14.out).1.1 (HM.out w14 H14.out).1.2 (by decide)).mono ?_
  dsimp only
  rintro _ w15 ⟨_, _, rfl, _, hb⟩
  have H15 := Lib.hid (H14.out.below hb)
  clear hb
  go_wp2_with fail
  refine (until_p (HM.out w15 H15.out).1.1).mono ?_
  dsimp only
  rintro _ _ ⟨rfl, rfl⟩
  go_wp2_with fail
  refine (croster_p (HM.out w15 H15.out).2.1.1 (HM.out w15 H15.out).2.1.2 (by decide)).mono ?_
  dsimp only [beginS]
  rintro _ w16 ⟨_, _, rfl, _, hb⟩
  have H16 := Lib.hid (H15.out.below hb)
  clear hb
  go_wp2_with fail
  refine (until_p (HM.out w16 H16.out).2.1.1).mono ?_
  rw [show (beginS ⟨2, [1, 2, 3], 3⟩ 20 26).un = 26 from rfl]
  rintro _ _ ⟨rfl, rfl⟩
  go_wp2_with fail
  refine (lost_p (HM.out w16 H16.out).1.1).mono ?_
  dsimp only
  rintro _ _ ⟨rfl, rfl⟩
  go_wp2_with fail
  go_ret
  exact ⟨rfl, H16.out.bl⟩
end Go.Proofs.YtaacdggjkfmehaaGreatDoor
