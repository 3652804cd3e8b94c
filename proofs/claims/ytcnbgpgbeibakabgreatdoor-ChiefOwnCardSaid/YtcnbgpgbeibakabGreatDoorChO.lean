/-
  Contracts of the program, and what they rest on.
-/
import Derived.Test.YtcnbgpgbeibakabGreatDoorRChJ
import Derived.Test.YtcnbgpgbeibakabGreatDoorChP
namespace Go.Proofs.YtcnbgpgbeibakabGreatDoor
open Go.RowKit Go.Maps Go.Proofs.MapD Go.Proofs.Chest
def io (v : Value) (l : List Int) : It where
  p w F := IOwn w 0 v l ∧ F = v.ownBlock.toList
  kept := fun ⟨h, e⟩ hk => ⟨h.kept (fun g hg => hk g (by simp [e, hg])), e⟩
  lt := fun ⟨h, e⟩ k hk => (h.lt (g := k) (by rw [e] at hk; simpa using hk)).2
def tx : It where
  p _ F := F = []
  kept := fun h _ => h
  lt := fun h k hk => by simp [h] at hk
theorem IOwn.some {w : World} {B : Nat} {ad : Option Addr} {n cap : Nat} {a : Int} {l : List Int} (h : IOwn w B (.slice ad n cap) (a :: l)) : ∃ b, ad = Option.some ⟨b, 0, none⟩ := by
  obtain ⟨_, ⟨h1, h2⟩ | ⟨g, c, cur, h1, _⟩⟩ := h
  · cases h2
  · injection h1 with h1
    exact ⟨g, h1⟩
theorem IOwn.cell {w : World} {B b n cap : Nat} {l : List Int} (h : IOwn w B (.slice (Option.some ⟨b, 0, none⟩) n cap) l) {k : Nat} (hk : k < l.length) : (∃ u, w.cell? ⟨b, k, none⟩ = Option.some u) ∧ w.frozen? ⟨b, k, none⟩ = false := by
  obtain ⟨_, ⟨h1, _⟩ | ⟨g, c, cur, h1, _, h3, h4, _, h6, _⟩⟩ := h
  · cases h1
  · injection h1 with h1 _ _
    injection h1 with h1
    injection h1 with h1 _ _
    subst h1
    refine ⟨?_, frozen_block h3⟩
    rw [cell_block h3]
    exact ⟨_, Array.getElem?_eq_getElem (by omega)⟩
section
variable {w0 w : World} {x j c R : Nat} {v v' : Value} {s : Cs} {L : List It}
theorem Sp.io {l : List Int} (h : Sp w0 w (Go.Proofs.YtcnbgpgbeibakabGreatDoor.io v l :: L)) : IOwn w 0 v l := by
  obtain ⟨F, h1, _⟩ := h.get
  exact h1
theorem Sp.ioNew {l : List Int} {w' : World} (h : Sp w0 w L) (hb : Below w.heap.size w w') (hv : IOwn w' w.heap.size v l) : Sp w0 w' (Go.Proofs.YtcnbgpgbeibakabGreatDoor.io v l :: L) :=
  h.new hb ⟨v.ownBlock.toList, ⟨hv.mono (Nat.zero_le _), rfl⟩, fun k hk => (hv.lt (g := k) (by simpa using hk)).1⟩
theorem Sp.ioSet {b n cap : Nat} {l : List Int} (h : Sp w0 w (Go.Proofs.YtcnbgpgbeibakabGreatDoor.io (.slice (some ⟨b, 0, none⟩) n cap) l :: L)) (k : Nat) (u : Value) : Sp w0 (w.setCell ⟨b, k, none⟩ u) L := by
  obtain ⟨F, ⟨h1, e⟩, _, kk⟩ := h.turn
  exact (kk tx _ ⟨[], rfl, by simp, (Only.refl F w).setCell (p := ⟨b, k, none⟩) (.inl (by simp [e, Value.ownBlock])) u⟩).drop
theorem CK.ioSet {b n cap : Nat} {l : List Int} (h : CK w0 w x j c R s (Go.Proofs.YtcnbgpgbeibakabGreatDoor.io (.slice (some ⟨b, 0, none⟩) n cap) l :: L)) (k : Nat) (u : Value) : CK w0 (w.setCell ⟨b, k, none⟩ u) x j c R s L := by
  obtain ⟨v, v', bb, rs, hg, hsp⟩ := h
  exact ⟨v, v', bb, rs, hg, hsp.rot.ioSet k u⟩
theorem CK.dropI {i : It} (h : CK w0 w x j c R s (i :: L)) : CK w0 w x j c R s L := by
  obtain ⟨v, v', bb, rs, hg, hsp⟩ := h
  exact ⟨v, v', bb, rs, hg, hsp.rot.drop⟩
theorem CK.mem {i : It} (h : CK w0 w x j c R s L) (hi : i ∈ L) : ∃ F, i.p w F := by
  obtain ⟨v, v', bb, rs, hg, hsp⟩ := h
  exact hsp.mem (.tail _ (.tail _ hi))
theorem CK.ioNew {l : List Int} {u : Value} {w' : World} (h : CK w0 w x j c R s L) (hb : Below w.heap.size w w') (hv : IOwn w' w.heap.size u l) : CK w0 w' x j c R s (Go.Proofs.YtcnbgpgbeibakabGreatDoor.io u l :: L) := by
  obtain ⟨v, v', bb, rs, hg, hsp⟩ := h
  exact ⟨v, v', bb, rs, hg, (hsp.ioNew hb hv).perm (List.perm_middle (l₁ := [cx x j v v' s, jc c j (jst R bb rs) (jjr bb rs)])).symm⟩
end
def LeaseOwn (q : Option (Int × Int)) (r : Ro) (u : Value) (K : List It → Prop) : Prop :=
  match q with
  | none => u = .slice none 0 0 ∧ K []
  | some (to, un) => ∃ g ad cap, u = .slice (some ⟨g, 0, none⟩) 1 1 ∧ K [Go.Proofs.YtcnbgpgbeibakabGreatDoor.wx g (wcells to un r ad cap), io (.slice ad r.l.length cap) r.l]
theorem LeaseOwn.mono {q : Option (Int × Int)} {r : Ro} {u : Value} {K K' : List It → Prop} (h : LeaseOwn q r u K) (hk : ∀ l, K l → K' l) : LeaseOwn q r u K' := by
  match q, h with
  | none, ⟨h1, h2⟩ => exact ⟨h1, hk _ h2⟩
  | some (to, un), ⟨g, ad, cap, h1, h2⟩ => exact ⟨g, ad, cap, h1, hk _ h2⟩
section
variable {w0 w : World} {c R : Nat} {L : List It}
set_option maxRecDepth 100000 in
set_option maxHeartbeats 8000000 in
theorem open_newo {e : Int} {l : List Int} {u : Value} (h : Sp w0 w (ch c ⟨R, []⟩ :: io u l :: L)) (hR : 2000 ≤ R) (hm : mayR ⟨e, l, 0⟩ = true) (hlib : LibAt w0) (now : Int) :
    Calls Tryz.prog 7 #[.pointer (some ⟨c, 0, none⟩), .agg #[.int .i64 e, u, .int .i64 0], .int .i64 now] w fun y w' => ∃ x j, y = .returned (.tuple #[.pointer (some ⟨x, 0, none⟩), .int .i64 0]) ∧ CK w0 w' x j c R (beginS ⟨e, l, 0⟩ now now) (io u l :: L) := by
  obtain ⟨ad, cap, rfl, _⟩ := h.swap.io.at.shape
  have HSP := Lib.hid ((h.rxNew e 0 (.slice ad l.length cap)).swap)
  have HOP := Lib.hid (s_open_ok HSP.out hlib (by simp) (jst_new R (by omega)))
  have HLA := Lib.hid (fun j W (hW : Sp w0 W (jc c j (jst R none []) (jjr none []) :: rx w.heap.size e (.slice ad l.length cap) 0 :: io (.slice ad l.length cap) l :: L)) => lasting_p hW JG.start hlib)
  have HMAY := Lib.hid (fun W (hW : IsAt W (.slice ad l.length cap) l) => romay_p e 0 _ l W hW (by have := mayR_len hm; omega))
  rw [hm] at HMAY
  have hl := mayR_len hm
  have HW := Lib.hid (fun j W (hW : Sp w0 W (jc c j (jst R none []) (jjr none []) :: rx w.heap.size e (.slice ad l.length cap) 0 :: io (.slice ad l.length cap) l :: L)) => cwrite_p hW JG.start hR hm hW.rot.io.at hlib)
  have HCP := Lib.hid (fun W (hW : IsAt W (.slice ad l.length cap) l) => ccopied_p e 0 _ l W hW (by omega))
  have HJG := Lib.hid (JG.start.wr hm (show folS Ro.zero ⟨e, l, 0⟩ = true from rfl))
  have HM := Lib.hid hm
  clear h hR hm hlib hl
  go_enter Tryz.func7, Tryz.ntmps7
  go_wp2_with fail
  generalize w.alloc _ = W at *
  refine HOP.out.mono ?_
  rintro _ w1 ⟨j, rfl, hs1⟩
  have HS1 := Lib.hid hs1
  clear hs1 HOP HSP
  go_wp2_with fail
  refine (HLA.out j w1 HS1.out).mono ?_
  rintro _ w2 ⟨a2, c2, rfl, _, hb2⟩
  rw [show (Ro.zero, true).1 = Ro.zero from rfl, show Ro.zero.l.length = 0 from rfl, show Ro.zero.ep = 0 from rfl, show Ro.zero.nw = 0 from rfl]
  have HSZ := Lib.hid (show w.heap.size < w2.heap.size by have := HS1.out.swap.rx.lt; have := hb2.size; omega)
  have HS3 := Lib.hid (HS1.out.below (hb2.alloc hb2.size (.cells #[.int .i64 0, .slice a2 0 c2, .int .i64 0] 31)))
  have hlt := HSZ.out
  obtain ⟨⟨p0, p1, p2⟩, _⟩ := (HS1.out.below hb2).swap.rx.rc
  clear hb2 HLA HS1
  go_wp2_with fail
  generalize w2.alloc _ = W3 at *
  clear hlt p0 p1 p2
  refine (HMAY.out W3 HS3.out.rot.io.at).mono ?_
  rintro _ w4 ⟨rfl, hb4⟩
  have HS4 := Lib.hid (HS3.out.below hb4)
  clear hb4 HS3 HMAY
  obtain ⟨⟨p0, p1, p2⟩, _⟩ := HS4.out.swap.rx.rc
  go_wp2_with fail
  refine (HW.out j w4 HS4.out).mono ?_
  rintro _ w5 ⟨rfl, h5⟩
  have H5 := Lib.hid h5
  clear h5 HW HS4 p0 p1 p2
  obtain ⟨⟨p0, p1, p2⟩, _⟩ := H5.out.swap.rx.rc
  go_wp2_with fail
  refine (HCP.out w5 H5.out.rot.io.at).mono ?_
  rintro _ w6 ⟨a6, c6, rfl, ho6, hb6⟩
  have HO6 := Lib.hid ho6
  have HB6 := Lib.hid hb6
  clear ho6 hb6 HCP
  go_wp2_with fail
  refine (begin_c (j := j) (e := e) (nw := 0) (l := l) HO6.out.at now now).mono ?_
  rintro _ w7 ⟨x, rfl, hc7, hi7, hx7, hb7⟩
  have HCK : Hid (CK w0 w7 x j c R (beginS ⟨e, l, 0⟩ now now) (io (.slice ad l.length cap) l :: L)) := Lib.hid (by
    have hs9 : Sp w0 w5 (jc c j (wst R none [] ⟨e, l, 0⟩) (wjr none [] ⟨e, l, 0⟩) :: io (.slice ad l.length cap) l :: L) := (H5.out.swap).drop
    exact CK.begin hs9 HJG.out HM.out (HB6.out.trans (hb7.mono HB6.out.size)) hc7 hi7 (Nat.le_trans HB6.out.size hx7) (fun g hg => by have := HO6.out.lt hg; omega))
  clear hc7 hi7 hx7 hb7
  go_wp2_with fail
  exact bodyPost_ret (v := .tuple #[.pointer (some ⟨x, 0, none⟩), .int .i64 0]) (by simp [results, Tryz.results7, go_sem]) rfl ⟨x, j, rfl, HCK.out⟩
end
section
variable {w0 w : World} {x j : Nat} {v v' : Value} {s : Cs} {L : List It}
set_option maxRecDepth 100000 in
set_option maxHeartbeats 4000000 in
theorem beat_o (h : Sp w0 w (cx x j v v' s :: L)) (m : Nat) (hn : 1 ≤ m ∧ m ≤ 5) (now : Int) (h0 : 0 ≤ now) (h1 : now ≤ 4611686018427387904) (hl : s.r.l.length ≤ 1000) :
    Calls Tryz.prog 29 #[.pointer (some ⟨x, 0, none⟩), .int .i64 m, .int .i64 now] w fun y w' => ∃ u, y = .returned u ∧ LeaseOwn (beatS s m now).2 s.r u (fun l => Sp w0 w' (l ++ cx x j v v' (beatS s m now).1 :: L)) := by
  obtain ⟨hc, hv, hv'⟩ := h.ck
  obtain ⟨ad, cap, rfl, _⟩ := hv.shape
  have HHAS := Lib.hid (has_p s.r.ep s.r.nw m _ s.r.l w hv (by omega))
  have HSP := Lib.hid h
  obtain ⟨c0, c1, c2, c3, c4, c5, c6, c7, c8, c9⟩ := hc.cells
  have HLS := Lib.hid (leased_p now h0 h1)
  have HLEN := Lib.hid hl
  have hm6 : (m : Int) < 6 := by omega
  have HM6 := Lib.hid (show m < 6 by omega)
  clear h hc hv hv' h0 h1 hl hn
  unfold beatS
  rw [show (m : Int).toNat = m from rfl]
  cases hh : hasI s.r.l m with
  | false =>
    rw [if_neg Bool.false_ne_true]
    rw [hh] at HHAS
    clear hh
    go_enter Tryz.func29, Tryz.ntmps29
    go_wp2_with fail
    refine HHAS.out.mono ?_
    rintro _ w2 ⟨rfl, hb2⟩
    have HS2 := Lib.hid (HSP.out.below hb2)
    clear hb2 c0 c1 c2 c3 c4 c5 c6 c7 c8 c9 HSP
    have HC2 := Lib.hid HS2.out.ck.1
    obtain ⟨_, _, _, _, _, _, _, _, c8, _⟩ := HC2.out.cells
    have f8 := HC2.out.free 14
    go_wp2_with fail
    go_ret
    exact ⟨_, rfl, rfl, HS2.out.ckSame (HC2.out.asks m) rfl rfl ((Only.refl [x] w2).setCell (p := ⟨x, 14, none⟩) (.inl (by simp)) _)⟩
  | true =>
    rw [if_pos rfl]
    rw [hh] at HHAS
    clear hh
    cases hg : s.chg with
    | true =>
      rw [if_pos rfl]
      go_enter Tryz.func29, Tryz.ntmps29
      go_wp2_with fail
      refine HHAS.out.mono ?_
      rintro _ w2 ⟨rfl, hb2⟩
      have HS2 := Lib.hid (HSP.out.below hb2)
      clear hb2 c0 c1 c2 c3 c4 c5 c6 c7 c8 c9 HSP
      have HC2 := Lib.hid HS2.out.ck.1
      have d0 := HC2.out.hd HM6.out
      have g0 := HC2.out.free (8 + m)
      have hc3 := HC2.out.hear HM6.out now
      have HS3 := Lib.hid (HS2.out.ckSame hc3 rfl rfl ((Only.refl [x] w2).setCell (p := ⟨x, 8 + m, none⟩) (.inl (by simp)) _))
      have HG := changing_p hc3
      rw [show (⟨s.r, s.nx, s.un, s.hd.set m now, s.asks, s.lost⟩ : Cs).chg = s.chg from rfl, hg] at HG
      have HGG := Lib.hid HG
      clear HG hc3 hg
      go_wp2_with fail
      refine HGG.out.mono ?_
      rintro _ _ ⟨rfl, rfl⟩
      go_wp2_with fail
      go_ret
      exact ⟨_, rfl, rfl, HS3.out⟩
    | false =>
      rw [if_neg Bool.false_ne_true]
      go_enter Tryz.func29, Tryz.ntmps29
      go_wp2_with fail
      refine HHAS.out.mono ?_
      rintro _ w2 ⟨rfl, hb2⟩
      have HS2 := Lib.hid (HSP.out.below hb2)
      have HWS := Lib.hid hb2.size
      clear hb2 c0 c1 c2 c3 c4 c5 c6 c7 c8 c9 HSP
      have HC2 := Lib.hid HS2.out.ck.1
      have d0 := HC2.out.hd HM6.out
      have g0 := HC2.out.free (8 + m)
      have hc3 := HC2.out.hear HM6.out now
      have HS3 := Lib.hid (HS2.out.ckSame hc3 rfl rfl ((Only.refl [x] w2).setCell (p := ⟨x, 8 + m, none⟩) (.inl (by simp)) _))
      have HG := changing_p hc3
      rw [show (⟨s.r, s.nx, s.un, s.hd.set m now, s.asks, s.lost⟩ : Cs).chg = s.chg from rfl, hg] at HG
      have HGG := Lib.hid HG
      have HSZ : Hid ((w2.setCell ⟨x, 8 + m, none⟩ (.int .i64 now)).heap.size = w2.heap.size) := Lib.hid (by simp [World.setCell])
      clear HG hc3 hg
      go_wp2_with fail
      generalize (w2.setCell ⟨x, 8 + m, none⟩ (.int .i64 now)) = W3 at *
      clear d0 g0
      refine HGG.out.mono ?_
      rintro _ _ ⟨rfl, rfl⟩
      go_wp2_with fail
      refine (HLS.out W3).mono ?_
      rintro _ W4 ⟨rfl, rfl⟩
      have hc3 := HS3.out.ck.1
      obtain ⟨_, _, _, _, _, _, _, c7, _, _⟩ := hc3.cells
      have f7 := hc3.free 7
      have hc4 := hc3.un (max s.un (now + 6))
      have HS4 := Lib.hid (HS3.out.ckSame hc4 rfl rfl ((Only.refl [x] W4).setCell (p := ⟨x, 7, none⟩) (.inl (by simp)) _))
      dsimp only at c7
      clear hc3 hc4 HGG
      go_wp2_with fail
      have HSZ5 : Hid ((W4.setCell ⟨x, 7, none⟩ (.int .i64 (max s.un (now + 6)))).heap.size = w2.heap.size) := Lib.hid (by have := HSZ.out; simpa [World.setCell] using this)
      generalize (W4.setCell ⟨x, 7, none⟩ (.int .i64 (max s.un (now + 6)))) = W5 at *
      clear c7 f7 HS3
      have hck := HS4.out.ck
      refine (croster_p hck.1 hck.2.1 HLEN.out).mono ?_
      clear hck
      dsimp only
      rintro _ w6 ⟨a6, c6, rfl, ho6, hb6⟩
      have HO6 := Lib.hid ho6
      have HS6 := Lib.hid (HS4.out.ioNew hb6 ho6)
      have HB6 := Lib.hid hb6
      clear ho6 hb6 HS4
      go_wp2_with fail
      go_ret
      exact ⟨_, rfl, w6.heap.size, a6, c6, rfl, HS6.out.new ((Below.refl _ _).alloc (Nat.le_refl _) _) ⟨[w6.heap.size], ⟨heap_alloc_new w6 _, rfl⟩, by simp⟩⟩
end
section
variable {w0 w : World} {x j c R : Nat} {s : Cs} {L : List It}
set_option maxRecDepth 100000 in
set_option maxHeartbeats 8000000 in
theorem step_o (h : CK w0 w x j c R s L) (hR : 2000 ≤ R) (hlib : LibAt w0) (k n to ep : Int) (q : Wq) (now : Int) (h0 : 0 ≤ now) (h1 : now ≤ 4611686018427387904) :
    Calls Tryz.prog 10 #[.pointer (some ⟨x, 0, none⟩), wagg k n to ep q, .int .i64 now] w fun y w' => ∃ u, y = .returned u ∧ LeaseOwn (stepS s k n to ep now).2 s.r u (fun l => CK w0 w' x j c R (stepS s k n to ep now).1 (l ++ L)) := by
  have hb : Below w.heap.size w (w.alloc (.cells #[.int .i64 k, .int .i64 n, .int .i64 to, .int .i64 ep, .int .i64 q.seq, .int .i64 q.req, .int .i64 q.un, .int .i64 q.e, .int .i64 q.v, .int .i64 q.ep, .slice q.a1 q.n1 q.c1, .int .i64 q.nw, .slice q.a2 q.n2 q.c2, .int .i64 q.ss, .slice q.a3 q.n3 q.c3, .slice q.a4 q.n4 q.c4, .int .i64 q.l1, .int .i64 q.l2, .int .i64 q.l3, .int .i64 q.l4, .int .i64 q.l5] 45)) := (Below.refl _ _).alloc (Nat.le_refl _) _
  have HK := Lib.hid (h.below hb)
  have HD : Hid (Calls Tryz.prog 25 #[.pointer (some ⟨x, 0, none⟩)] (w.alloc (.cells #[.int .i64 k, .int .i64 n, .int .i64 to, .int .i64 ep, .int .i64 q.seq, .int .i64 q.req, .int .i64 q.un, .int .i64 q.e, .int .i64 q.v, .int .i64 q.ep, .slice q.a1 q.n1 q.c1, .int .i64 q.nw, .slice q.a2 q.n2 q.c2, .int .i64 q.ss, .slice q.a3 q.n3 q.c3, .slice q.a4 q.n4 q.c4, .int .i64 q.l1, .int .i64 q.l2, .int .i64 q.l3, .int .i64 q.l4, .int .i64 q.l5] 45)) fun y w' => y = .returned (.bool false) ∧ (w.alloc (.cells #[.int .i64 k, .int .i64 n, .int .i64 to, .int .i64 ep, .int .i64 q.seq, .int .i64 q.req, .int .i64 q.un, .int .i64 q.e, .int .i64 q.v, .int .i64 q.ep, .slice q.a1 q.n1 q.c1, .int .i64 q.nw, .slice q.a2 q.n2 q.c2, .int .i64 q.ss, .slice q.a3 q.n3 q.c3, .slice q.a4 q.n4 q.c4, .int .i64 q.l1, .int .i64 q.l2, .int .i64 q.l3, .int .i64 q.l4, .int .i64 q.l5] 45)) = w') := Lib.hid (by
    obtain ⟨v, v', b, rs, hg, hsp⟩ := HK.out
    exact down_p hsp.ck.1)
  have HB : Hid ((w.alloc (.cells #[.int .i64 k, .int .i64 n, .int .i64 to, .int .i64 ep, .int .i64 q.seq, .int .i64 q.req, .int .i64 q.un, .int .i64 q.e, .int .i64 q.v, .int .i64 q.ep, .slice q.a1 q.n1 q.c1, .int .i64 q.nw, .slice q.a2 q.n2 q.c2, .int .i64 q.ss, .slice q.a3 q.n3 q.c3, .slice q.a4 q.n4 q.c4, .int .i64 q.l1, .int .i64 q.l2, .int .i64 q.l3, .int .i64 q.l4, .int .i64 q.l5] 45)).cell? ⟨w.heap.size, 0, none⟩ = some (.int .i64 k) ∧ (w.alloc (.cells #[.int .i64 k, .int .i64 n, .int .i64 to, .int .i64 ep, .int .i64 q.seq, .int .i64 q.req, .int .i64 q.un, .int .i64 q.e, .int .i64 q.v, .int .i64 q.ep, .slice q.a1 q.n1 q.c1, .int .i64 q.nw, .slice q.a2 q.n2 q.c2, .int .i64 q.ss, .slice q.a3 q.n3 q.c3, .slice q.a4 q.n4 q.c4, .int .i64 q.l1, .int .i64 q.l2, .int .i64 q.l3, .int .i64 q.l4, .int .i64 q.l5] 45)).cell? ⟨w.heap.size, 1, none⟩ = some (.int .i64 n) ∧ (w.alloc (.cells #[.int .i64 k, .int .i64 n, .int .i64 to, .int .i64 ep, .int .i64 q.seq, .int .i64 q.req, .int .i64 q.un, .int .i64 q.e, .int .i64 q.v, .int .i64 q.ep, .slice q.a1 q.n1 q.c1, .int .i64 q.nw, .slice q.a2 q.n2 q.c2, .int .i64 q.ss, .slice q.a3 q.n3 q.c3, .slice q.a4 q.n4 q.c4, .int .i64 q.l1, .int .i64 q.l2, .int .i64 q.l3, .int .i64 q.l4, .int .i64 q.l5] 45)).cell? ⟨w.heap.size, 2, none⟩ = some (.int .i64 to) ∧ (w.alloc (.cells #[.int .i64 k, .int .i64 n, .int .i64 to, .int .i64 ep, .int .i64 q.seq, .int .i64 q.req, .int .i64 q.un, .int .i64 q.e, .int .i64 q.v, .int .i64 q.ep, .slice q.a1 q.n1 q.c1, .int .i64 q.nw, .slice q.a2 q.n2 q.c2, .int .i64 q.ss, .slice q.a3 q.n3 q.c3, .slice q.a4 q.n4 q.c4, .int .i64 q.l1, .int .i64 q.l2, .int .i64 q.l3, .int .i64 q.l4, .int .i64 q.l5] 45)).cell? ⟨w.heap.size, 3, none⟩ = some (.int .i64 ep)) := Lib.hid (by refine ⟨?_, ?_, ?_, ?_⟩ <;> go_simp)
  have HFULL := Lib.hid (fun (hn : n ≠ 0) => full_p HK.out hR hlib n ep hn)
  have HBEAT : Hid (∀ m : Nat, 1 ≤ m ∧ m ≤ 5 → Calls Tryz.prog 29 #[.pointer (some ⟨x, 0, none⟩), .int .i64 m, .int .i64 now] (w.alloc (.cells #[.int .i64 k, .int .i64 n, .int .i64 to, .int .i64 ep, .int .i64 q.seq, .int .i64 q.req, .int .i64 q.un, .int .i64 q.e, .int .i64 q.v, .int .i64 q.ep, .slice q.a1 q.n1 q.c1, .int .i64 q.nw, .slice q.a2 q.n2 q.c2, .int .i64 q.ss, .slice q.a3 q.n3 q.c3, .slice q.a4 q.n4 q.c4, .int .i64 q.l1, .int .i64 q.l2, .int .i64 q.l3, .int .i64 q.l4, .int .i64 q.l5] 45)) fun y w' => ∃ u, y = .returned u ∧ LeaseOwn (beatS s m now).2 s.r u (fun l => CK w0 w' x j c R (beatS s m now).1 (l ++ L))) := Lib.hid (fun m hm => by
    obtain ⟨v, v', b, rs, hg, hsp⟩ := HK.out
    refine (beat_o hsp m hm now h0 h1 (by have := hg.len; omega)).mono ?_
    rintro y w' ⟨u, h1, h2⟩
    refine ⟨u, h1, h2.mono (fun l hl => ⟨v, v', b, rs, hg.beat m now, ?_⟩)⟩
    refine hl.perm ?_
    have hp := (List.perm_append_comm (l₁ := l) (l₂ := [cx x j v v' (beatS s m now).1, jc c j (jst R b rs) (jjr b rs)])).append_right L
    simpa using hp)
  clear h hb h0 h1 hlib
  unfold stepS wagg
  by_cases t1 : to = 0
  case neg =>
    have t1b : (to != 0) = true := by rw [bne_iff_ne]; exact t1
    rw [if_pos (.inl t1)]
    clear t1
    go_enter Tryz.func10, Tryz.ntmps10
    go_wp2_with fail
    generalize w.alloc _ = W at *
    refine HD.out.mono ?_
    rintro _ _ ⟨rfl, rfl⟩
    obtain ⟨b0, b1, b2, b3⟩ := HB.out
    go_wp2_with fail
    go_ret
    exact ⟨_, rfl, rfl, HK.out⟩
  have t1b : (to != 0) = false := by rw [bne_eq_false_iff_eq]; exact t1
  by_cases t2 : n < 1
  case pos =>
    rw [if_pos (.inr (.inl t2))]
    clear t1
    go_enter Tryz.func10, Tryz.ntmps10
    go_wp2_with fail
    generalize w.alloc _ = W at *
    refine HD.out.mono ?_
    rintro _ _ ⟨rfl, rfl⟩
    obtain ⟨b0, b1, b2, b3⟩ := HB.out
    go_wp2_with fail
    go_ret
    exact ⟨_, rfl, rfl, HK.out⟩
  by_cases t3 : 5 < n
  case pos =>
    rw [if_pos (.inr (.inr t3))]
    clear t1
    go_enter Tryz.func10, Tryz.ntmps10
    go_wp2_with fail
    generalize w.alloc _ = W at *
    refine HD.out.mono ?_
    rintro _ _ ⟨rfl, rfl⟩
    obtain ⟨b0, b1, b2, b3⟩ := HB.out
    go_wp2_with fail
    go_ret
    exact ⟨_, rfl, rfl, HK.out⟩
  rw [if_neg (by omega)]
  clear t1
  by_cases t4 : k = 1
  case pos =>
    subst t4
    rw [if_pos rfl]
    obtain ⟨m, rfl⟩ : ∃ m : Nat, n = m := ⟨n.toNat, by omega⟩
    have HBT := Lib.hid (HBEAT.out m (by omega))
    clear HBEAT HFULL
    go_enter Tryz.func10, Tryz.ntmps10
    go_wp2_with fail
    generalize w.alloc _ = W at *
    refine HD.out.mono ?_
    rintro _ _ ⟨rfl, rfl⟩
    obtain ⟨b0, b1, b2, b3⟩ := HB.out
    go_wp2_with fail
    refine HBT.out.mono ?_
    rintro _ w2 ⟨u, rfl, h2⟩
    have H2 := Lib.hid h2
    clear h2 HBT
    go_wp2_with fail
    go_ret
    exact ⟨_, rfl, H2.out⟩
  have t4b : (k == 1) = false := by rw [beq_eq_false_iff_ne]; exact t4
  rw [if_neg t4]
  clear t4
  by_cases t5 : k = 11
  case pos =>
    subst t5
    rw [if_pos rfl]
    have HFL := Lib.hid (HFULL.out (by omega))
    clear HBEAT HFULL
    go_enter Tryz.func10, Tryz.ntmps10
    go_wp2_with fail
    generalize w.alloc _ = W at *
    refine HD.out.mono ?_
    rintro _ _ ⟨rfl, rfl⟩
    obtain ⟨b0, b1, b2, b3⟩ := HB.out
    go_wp2_with fail
    refine HFL.out.mono ?_
    rintro _ w2 ⟨rfl, h2⟩
    have H2 := Lib.hid h2
    clear h2 HFL
    go_wp2_with fail
    go_ret
    exact ⟨_, rfl, rfl, H2.out⟩
  have t5b : (k == 11) = false := by rw [beq_eq_false_iff_ne]; exact t5
  rw [if_neg t5]
  clear t5
  case' _ =>
    go_enter Tryz.func10, Tryz.ntmps10
    go_wp2_with fail
    generalize w.alloc _ = W at *
    refine HD.out.mono ?_
    rintro _ _ ⟨rfl, rfl⟩
    obtain ⟨b0, b1, b2, b3⟩ := HB.out
    go_wp2_with fail
    go_ret
    exact ⟨_, rfl, rfl, HK.out⟩
end
end Go.Proofs.YtcnbgpgbeibakabGreatDoor
