/-
  Contracts of the program, and what they rest on.
-/
import Derived.Test.YtaacdggjkfmehaaGreatDoorRChJ
import Derived.Test.YtaacdggjkfmehaaGreatDoorChP
namespace Go.Proofs.YtaacdggjkfmehaaGreatDoor
open Go.RowKit Go.Maps Go.Proofs.MapD Go.Proofs.Chest
def io (v : Value) (l : List Int) : It where
  p w F := IOwn w 0 v l ∧ F = v.ownBlock.toList
  kept := fun ⟨h, e⟩ hk => ⟨h.kept (fun g hg => hk g (by simp [e, hg])), e⟩
  lt := fun ⟨h, e⟩ k hk => (h.lt (g := k) (by rw [e] at hk; simpa using hk)).2
theorem IOwn.some {w : World} {B : Nat} {ad : Option Addr} {n cap : Nat} {a : Int} {l : List Int} (h : IOwn w B (.slice ad n cap) (a :: l)) : ∃ b, ad = Option.some ⟨b, 0, none⟩ := by
  obtain ⟨_, ⟨h1, h2⟩ | ⟨g, c, cur, h1, _⟩⟩ := h
  · cases h2
  · injection h1 with h1
    exact ⟨g, h1⟩
theorem IOwn.cell {w : World} {B b n cap : Nat} {l : List Int} (h : IOwn w B (.slice (Option.some ⟨b, 0, none⟩) n cap) l) {k : Nat} (hk : k < l.length) : (∃ u, w.cell? ⟨b, k, none⟩ = Option.some u) ∧ w.frozen? ⟨b, k, none⟩ = false := by
  obtain ⟨_, ⟨h1, _⟩ | ⟨g, c, cur, h1, _, h3, h4, _, h6, _⟩⟩ := h
  · cases h1
  · injection h1 with h1 _ _
    injection h1 with h1
    injection h1 with h1 _ _
    subst h1
    refine ⟨?_, frozen_block h3⟩
    rw [cell_block h3]
    exact ⟨_, Array.getElem?_eq_getElem (by omega)⟩
section
variable {w0 w : World} {x j c R : Nat} {v v' : Value} {s : Cs} {L : List It}
theorem Sp.io {l : List Int} (h : Sp w0 w (Go.Proofs.YtaacdggjkfmehaaGreatDoor.io v l :: L)) : IOwn w 0 v l := by
  obtain ⟨F, h1, _⟩ := h.get
  exact h1
theorem Sp.ioNew {l : List Int} {w' : World} (h : Sp w0 w L) (hb : Below w.heap.size w w') (hv : IOwn w' w.heap.size v l) : Sp w0 w' (Go.Proofs.YtaacdggjkfmehaaGreatDoor.io v l :: L) :=
  h.new hb ⟨v.ownBlock.toList, ⟨hv.mono (Nat.zero_le _), rfl⟩, fun k hk => (hv.lt (g := k) (by simpa using hk)).1⟩
theorem CK.dropI {i : It} (h : CK w0 w x j c R s (i :: L)) : CK w0 w x j c R s L := by
  obtain ⟨v, v', bb, rs, hg, hsp⟩ := h
  exact ⟨v, v', bb, rs, hg, hsp.rot.drop⟩
theorem CK.mem {i : It} (h : CK w0 w x j c R s L) (hi : i ∈ L) : ∃ F, i.p w F := by
  obtain ⟨v, v', bb, rs, hg, hsp⟩ := h
  exact hsp.mem (.tail _ (.tail _ hi))
theorem CK.ioNew {l : List Int} {u : Value} {w' : World} (h : CK w0 w x j c R s L) (hb : Below w.heap.size w w') (hv : IOwn w' w.heap.size u l) : CK w0 w' x j c R s (Go.Proofs.YtaacdggjkfmehaaGreatDoor.io u l :: L) := by
  obtain ⟨v, v', bb, rs, hg, hsp⟩ := h
  exact ⟨v, v', bb, rs, hg, (hsp.ioNew hb hv).perm (List.perm_middle (l₁ := [cx x j v v' s, jc c j (jst R bb rs) (jjr bb rs)])).symm⟩
end
def LeaseOwn (q : Option (Int × Int)) (r : Ro) (u : Value) (K : List It → Prop) : Prop :=
  match q with
  | none => u = .slice none 0 0 ∧ K []
  | some (to, un) => ∃ g ad cap, u = .slice (some ⟨g, 0, none⟩) 1 1 ∧ K [Go.Proofs.YtaacdggjkfmehaaGreatDoor.wx g (wcells to un r ad cap), io (.slice ad r.l.length cap) r.l]
theorem LeaseOwn.mono {q : Option (Int × Int)} {r : Ro} {u : Value} {K K' : List It → Prop} (h : LeaseOwn q r u K) (hk : ∀ l, K l → K' l) : LeaseOwn q r u K' := by
  match q, h with
  | none, ⟨h1, h2⟩ => exact ⟨h1, hk _ h2⟩
  | some (to, un), ⟨g, ad, cap, h1, h2⟩ => exact ⟨g, ad, cap, h1, hk _ h2⟩
section
variable {w0 w : World} {c R : Nat} {L : List It}
set_option maxRecDepth 100000 in
set_option maxHeartbeats 8000000 in
theorem open_newo {e : Int} {l : List Int} {u : Value} (h : Sp w0 w (ch c ⟨R, []⟩ :: io u l :: L)) (hR : 2000 ≤ R) (hm : mayR ⟨e, l, 0⟩ = true) (hlib : LibAt w0) (now : Int) :
    Calls Tryz.prog 8 #[.pointer (some ⟨c, 0, none⟩), .agg #[.int .i64 e, u, .int .i64 0], .int .i64 now] w fun y w' => ∃ x j, y = .returned (.tuple #[.pointer (some ⟨x, 0, none⟩), .int .i64 0]) ∧ CK w0 w' x j c R (beginS ⟨e, l, 0⟩ now now) (io u l :: L) := by
  obtain ⟨ad, cap, rfl, _⟩ := h.swap.io.at.shape
  have HSP := Lib.hid ((h.rxNew e 0 (.slice ad l.length cap)).swap)
  have HOP := Lib.hid (s_open_ok HSP.out hlib (by simp) (jst_new R (by omega)))
  have HLA := Lib.hid (fun j W (hW : Sp w0 W (jc c j (jst R none []) (jjr none []) :: rx w.heap.size e (.slice ad l.length cap) 0 :: io (.slice ad l.length cap) l :: L)) => lasting_p hW JG.start hlib)
  have HMAY := Lib.hid (fun W (hW : IsAt W (.slice ad l.length cap) l) => romay_p e 0 _ l W hW (by have := mayR_len hm; omega))
  rw [hm] at HMAY
  have hl := mayR_len hm
  have HW := Lib.hid (fun j W (hW : Sp w0 W (jc c j (jst R none []) (jjr none []) :: rx w.heap.size e (.slice ad l.length cap) 0 :: io (.slice ad l.length cap) l :: L)) => cwrite_p hW JG.start hR hm hW.rot.io.at hlib)
  have HCP := Lib.hid (fun W (hW : IsAt W (.slice ad l.length cap) l) => ccopied_p e 0 _ l W hW (by omega))
  have HJG := Lib.hid (JG.start.wr hm (show folS Ro.zero ⟨e, l, 0⟩ = true from rfl))
  have HM := Lib.hid hm
  clear h hR hm hlib hl
  go_enter Tryz.func8, Tryz.ntmps8
  go_wp2_with fail
  generalize w.alloc _ = W at *
  refine HOP.out.mono ?_
  rintro _ w1 ⟨j, rfl, hs1⟩
  have HS1 := Lib.hid hs1
  clear hs1 HOP HSP
  go_wp2_with fail
  refine (HLA.out j w1 HS1.out).mono ?_
  rintro _ w2 ⟨a2, c2, rfl, _, hb2⟩
  rw [show (Ro.zero, true).1 = Ro.zero from rfl, show Ro.zero.l.length = 0 from rfl, show Ro.zero.ep = 0 from rfl, show Ro.zero.nw = 0 from rfl]
  have HSZ := Lib.hid (show w.heap.size < w2.heap.size by have := HS1.out.swap.rx.lt; have := hb2.size; omega)
  have HS3 := Lib.hid (HS1.out.below (hb2.alloc hb2.size (.cells #[.int .i64 0, .slice a2 0 c2, .int .i64 0] 24)))
  have hlt := HSZ.out
  obtain ⟨⟨p0, p1, p2⟩, _⟩ := (HS1.out.below hb2).swap.rx.rc
  clear hb2 HLA HS1
  go_wp2_with fail
  generalize w2.alloc _ = W3 at *
  clear hlt p0 p1 p2
  refine (HMAY.out W3 HS3.out.rot.io.at).mono ?_
  rintro _ w4 ⟨rfl, hb4⟩
  have HS4 := Lib.hid (HS3.out.below hb4)
  clear hb4 HS3 HMAY
  obtain ⟨⟨p0, p1, p2⟩, _⟩ := HS4.out.swap.rx.rc
  go_wp2_with fail
  refine (HW.out j w4 HS4.out).mono ?_
  rintro _ w5 ⟨rfl, h5⟩
  have H5 := Lib.hid h5
  clear h5 HW HS4 p0 p1 p2
  obtain ⟨⟨p0, p1, p2⟩, _⟩ := H5.out.swap.rx.rc
  go_wp2_with fail
  refine (HCP.out w5 H5.out.rot.io.at).mono ?_
  rintro _ w6 ⟨a6, c6, rfl, ho6, hb6⟩
  have HO6 := Lib.hid ho6
  have HB6 := Lib.hid hb6
  clear ho6 hb6 HCP
  go_wp2_with fail
  refine (begin_c (j := j) (e := e) (nw := 0) (l := l) HO6.out.at now now).mono ?_
  rintro _ w7 ⟨x, rfl, hc7, hi7, hx7, hb7⟩
  have HCK : Hid (CK w0 w7 x j c R (beginS ⟨e, l, 0⟩ now now) (io (.slice ad l.length cap) l :: L)) := Lib.hid (by
    have hs9 : Sp w0 w5 (jc c j (wst R none [] ⟨e, l, 0⟩) (wjr none [] ⟨e, l, 0⟩) :: io (.slice ad l.length cap) l :: L) := (H5.out.swap).drop
    exact CK.begin hs9 HJG.out HM.out (HB6.out.trans (hb7.mono HB6.out.size)) hc7 hi7 (Nat.le_trans HB6.out.size hx7) (fun g hg => by have := HO6.out.lt hg; omega))
  clear hc7 hi7 hx7 hb7
  go_wp2_with fail
  exact bodyPost_ret (v := .tuple #[.pointer (some ⟨x, 0, none⟩), .int .i64 0]) (by simp [results, Tryz.results8, go_sem]) rfl ⟨x, j, rfl, HCK.out⟩
end
end Go.Proofs.YtaacdggjkfmehaaGreatDoor
