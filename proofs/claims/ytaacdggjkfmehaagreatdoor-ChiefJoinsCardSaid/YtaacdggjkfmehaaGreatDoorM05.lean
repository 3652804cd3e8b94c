/-
  Contracts of the program, and what they rest on.
-/
import Derived.Maps.Ext
import Derived.Sort.KeysCollected
import Derived.Test.YtaacdggjkfmehaaGreatDoorM03
import Derived.Test.YtaacdggjkfmehaaGreatDoorM04
namespace Go.Proofs.MapD
open Go.Maps Go.ChangeMaps Go.WideShapes
abbrev DU := DataW Unit
def kl (n : ByteArray) : Lit := .string n.data.toList
theorem kl_inj {a b : ByteArray} (h : kl a = kl b) : a = b := by
  unfold kl at h
  injection h with h
  cases a; cases b
  simp at h
  rw [h]
theorem kl_key (n : ByteArray) : WideAt.IsKeyLit (kl n) := trivial
def ptrElem (v : Value) : Option (DU × List MemPlace) :=
  match v with
  | .pointer (some ⟨b, 0, none⟩) => some (.lit (.int .i64 b), [])
  | .pointer none => some (.lit (.bool false), [])
  | _ => none
theorem ptr_mk (b : Nat) : ptrElem (.pointer (some ⟨b, 0, none⟩)) = some (.lit (.int .i64 b), []) := rfl
theorem ptr_nil : ptrElem (.pointer none) = some (.lit (.bool false), []) := rfl
theorem ptr_inv {v : Value} {ps : List MemPlace} {b : Nat} (h : ptrElem v = some (.lit (.int .i64 b), ps)) : v = .pointer (some ⟨b, 0, none⟩) := by
  unfold ptrElem at h
  split at h
  · rename_i b'
    have e : b' = b := by
      have := congrArg (fun x => x.map Prod.fst) h
      simp at this
      omega
    rw [e]
  · simp at h
  · cases h
theorem ptr_nil_inv {v : Value} {ps : List MemPlace} (h : ptrElem v = some (.lit (.bool false), ps)) : v = .pointer none := by
  unfold ptrElem at h
  split at h
  · simp at h
  · rfl
  · cases h
abbrev NB := ByteArray × Nat
def ent (e : NB) : Lit × DU := (kl e.1, .lit (.int .i64 e.2))
def D (L : List NB) : DU := .map ((L.map ent).foldr DataW.insert [])
abbrev names (L : List NB) : List ByteArray := L.map Prod.fst
def Kd (l : Lit) : Prop := ∃ s, l = .string s
theorem one : OneKind Kd := ⟨fun ⟨_, h⟩ => by rw [h]; trivial, fun ha hb hne => before_total ha hb hne⟩
theorem keys_ent (L : List NB) : Keys Kd (L.map ent) := by
  intro p hp
  obtain ⟨e, _, rfl⟩ := List.mem_map.1 hp
  exact ⟨_, rfl⟩
theorem apart_ent {L : List NB} (h : (names L).Nodup) : (L.map ent).Pairwise (fun p q => p.1 ≠ q.1) := by
  unfold List.Nodup at h
  rw [List.pairwise_map] at h ⊢
  exact h.imp (fun {a b} hab e => hab (kl_inj e))
theorem D_size (L : List NB) : Maps.size (D L) = L.length := by
  show ((L.map ent).foldr DataW.insert []).length = _
  rw [(sorted_perm _).length_eq, List.length_map]
theorem D_perm {L L' : List NB} (h : (names L).Nodup) (hp : L.Perm L') : D L = D L' := by
  unfold D
  have h' : (names L').Nodup := (hp.map Prod.fst).nodup_iff.1 h
  have := eq_of_perm_sorted (((sorted_perm (L.map ent)).trans (hp.map ent)).trans (sorted_perm (L'.map ent)).symm) (sorted_sorted one _ (keys_ent L) (apart_ent h)) (sorted_sorted one _ (keys_ent L') (apart_ent h'))
  rw [this]
theorem notKey_ent (n : ByteArray) (e : NB) : notKey (kl n) (ent e) = decide (e.1 ≠ n) := by
  rw [Bool.eq_iff_iff, notKey_iff (kl_key n), decide_eq_true_iff]
  exact ⟨fun h e1 => h (by rw [← e1]; rfl), fun h e1 => h (kl_inj e1)⟩
theorem filter_ent (n : ByteArray) (L : List NB) : (L.map ent).filter (notKey (kl n)) = (L.filter fun e => decide (e.1 ≠ n)).map ent := by
  rw [List.filter_map]
  congr 1
  apply List.filter_congr
  intro e _
  exact notKey_ent n e
theorem D_del {L : List NB} (h : (names L).Nodup) (n : ByteArray) : (D L).del (kl n) = D (L.filter fun e => decide (e.1 ≠ n)) := by
  have := sorted_del (k := kl n) (E' := (L.filter fun e => decide (e.1 ≠ n)).map ent) one (keys_ent L) (apart_ent h) (by rw [filter_ent])
  unfold D
  rw [this]
  rfl
theorem D_put {L : List NB} (h : (names L).Nodup) (n : ByteArray) (b : Nat) : (D L).put (kl n) (.lit (.int .i64 b)) = D ((n, b) :: L.filter fun e => decide (e.1 ≠ n)) := by
  have := sorted_put (k := kl n) (d := (.lit (.int .i64 b) : DU)) (E' := ((n, b) :: L.filter fun e => decide (e.1 ≠ n)).map ent) one ⟨_, rfl⟩ (keys_ent L) (apart_ent h) (by rw [List.map_cons, filter_ent]; exact .refl _)
  unfold D
  rw [this]
  rfl
theorem D_at {L : List NB} (h : (names L).Nodup) {e : NB} (he : e ∈ L) (z : DU) : (D L).atKey (kl e.1) z = .lit (.int .i64 e.2) := by
  have hap : ((L.map ent).foldr DataW.insert []).Pairwise (fun p q => p.1 ≠ q.1) := ((sorted_perm (L.map ent)).pairwise_iff (fun {_ _} hne => Ne.symm hne)).2 (apart_ent h)
  exact WideAt.atKey_mem z (kl_key _) hap ((sorted_perm _).mem_iff.2 (List.mem_map.2 ⟨e, he, rfl⟩))
theorem D_has (L : List NB) (n : ByteArray) : Maps.has (D L) (kl n) = L.any (fun e => decide (e.1 = n)) := by
  rw [Bool.eq_iff_iff, List.any_eq_true]
  constructor
  · intro h
    obtain ⟨p, hp, hs⟩ := List.any_eq_true.1 h
    obtain ⟨e, he, rfl⟩ := List.mem_map.1 ((sorted_perm _).mem_iff.1 hp)
    exact ⟨e, he, decide_eq_true (kl_inj (WideAt.sameKey_eq hs))⟩
  · rintro ⟨e, he, h⟩
    obtain rfl := of_decide_eq_true h
    exact List.any_eq_true.2 ⟨ent e, (sorted_perm _).mem_iff.2 (List.mem_map.2 ⟨e, he, rfl⟩), WideAt.sameKey_self (kl_key _)⟩
theorem D_key {L : List NB} {l : Lit} (h : Maps.has (D L) l = true) : ∃ e ∈ L, l = kl e.1 := by
  obtain ⟨p, hp, hs⟩ := List.any_eq_true.1 h
  obtain ⟨e, he, rfl⟩ := List.mem_map.1 ((sorted_perm _).mem_iff.1 hp)
  exact ⟨e, he, (WideAt.sameKey_eq hs).symm⟩
end Go.Proofs.MapD
namespace Go.Proofs.YtaacdggjkfmehaaGreatDoor
open Go.RowKit
def eqR (a b : Ro) : Bool := decide (a.ep = b.ep) && (decide (a.nw = b.nw) && decide (a.l = b.l))
theorem two_boxes (w : World) (e nw e' nw' : Int) (ad ad' : Option Addr) (m m' c c' : Nat) (t : TypeId) :
    RC ((w.alloc (.cells #[.int .i64 e, .slice ad m c, .int .i64 nw] t)).alloc (.cells #[.int .i64 e', .slice ad' m' c', .int .i64 nw'] t)) w.heap.size e (.slice ad m c) nw ∧
    RC ((w.alloc (.cells #[.int .i64 e, .slice ad m c, .int .i64 nw] t)).alloc (.cells #[.int .i64 e', .slice ad' m' c', .int .i64 nw'] t)) (w.heap.size + 1) e' (.slice ad' m' c') nw' ∧
    Below w.heap.size w ((w.alloc (.cells #[.int .i64 e, .slice ad m c, .int .i64 nw] t)).alloc (.cells #[.int .i64 e', .slice ad' m' c', .int .i64 nw'] t)) := by
  refine ⟨(RC.new w e ad m c nw t).alloc _, ?_, ((Below.refl _ w).alloc (Nat.le_refl _) _).alloc (by simp) _⟩
  have := RC.new (w.alloc (.cells #[.int .i64 e, .slice ad m c, .int .i64 nw] t)) e' ad' m' c' nw' t
  simpa using this
set_option maxRecDepth 100000 in
set_option maxHeartbeats 4000000 in
theorem eq_p (e nw e' nw' : Int) (v v' : Value) (l l' : List Int) (w : World) (h : IsAt w v l) (h' : IsAt w v' l') (hn : l.length ≤ 1000) (hn' : l'.length ≤ 1000) :
    Calls Tryz.prog 82 #[.agg #[.int .i64 e, v, .int .i64 nw], .agg #[.int .i64 e', v', .int .i64 nw']] w fun r w' => r = .returned (.bool (eqR ⟨e, l, nw⟩ ⟨e', l', nw'⟩)) ∧ Below w.heap.size w w' := by
  obtain ⟨ad, cap, rfl, _⟩ := h.shape
  obtain ⟨ad', cap', rfl, _⟩ := h'.shape
  obtain ⟨h1, h2, hb⟩ := two_boxes w e nw e' nw' ad ad' l.length l'.length cap cap' 24
  have HB := Lib.hid hb
  have HV := Lib.hid (And.intro (h.below hb) (h'.below hb))
  obtain ⟨R, hR⟩ : ∃ R, eqR ⟨e, l, nw⟩ ⟨e', l', nw'⟩ = R := ⟨_, rfl⟩
  rw [hR]
  unfold eqR at hR
  dsimp only at hR
  have HE := Lib.hid (equal_p _ _ l l' _ HV.out.1 HV.out.2 (by omega) (by omega))
  clear h h' hb
  by_cases he : e = e'
  case neg =>
    have heb : (e == e') = false := by rw [beq_eq_false_iff_ne]; exact he
    rw [decide_eq_false he, Bool.false_and] at hR
    subst hR
    clear he
    go_enter Tryz.func82, Tryz.ntmps82
    go_wp2_with fail
    go_ret
    exact ⟨rfl, HB.out⟩
  subst he
  rw [decide_eq_true rfl, Bool.true_and] at hR
  by_cases he : nw = nw'
  case neg =>
    have heb : (nw == nw') = false := by rw [beq_eq_false_iff_ne]; exact he
    rw [decide_eq_false he, Bool.false_and] at hR
    subst hR
    clear he
    go_enter Tryz.func82, Tryz.ntmps82
    go_wp2_with fail
    go_ret
    exact ⟨rfl, HB.out⟩
  subst he
  rw [decide_eq_true rfl, Bool.true_and] at hR
  subst hR
  generalize decide (l = l') = R at *
  clear HV h1 h2
  go_enter Tryz.func82, Tryz.ntmps82
  go_wp2_with fail
  generalize ((w.alloc (.cells #[.int .i64 e, .slice ad l.length cap, .int .i64 nw] 24)).alloc (.cells #[.int .i64 e, .slice ad' l'.length cap', .int .i64 nw] 24)) = W at *
  refine HE.out.mono ?_
  rintro _ w2 ⟨rfl, hb2⟩
  have HB2 := Lib.hid (HB.out.trans (hb2.mono HB.out.size))
  clear hb2
  go_wp2_with fail
  go_ret
  exact ⟨rfl, HB2.out⟩
end Go.Proofs.YtaacdggjkfmehaaGreatDoor
namespace Go.Proofs.YtaacdggjkfmehaaGreatDoor
open Go.RowKit
theorem ix_here {l : List Int} {k : Nat} {x : Int} (hx : l[k]? = some x) (h : hasI (l.take k) x = false) : ixI l x = (k : Int) := by
  have hno : ∀ j y, j < k → l[j]? = some y → y ≠ x := by
    intro j y hj hy he
    unfold hasI at h
    have h2 : ixI (l.take k) x = -1 := by
      rcases ixI_cases (l.take k) x with ⟨h1, _⟩ | ⟨m, _, h1, _⟩
      · exact h1
      · rw [h1] at h
        have := of_decide_eq_false h
        omega
    rcases ixI_cases (l.take k) x with ⟨_, h3⟩ | ⟨m, _, h1, _⟩
    · unfold ixN at h3
      rw [List.findIdx?_eq_none_iff] at h3
      have hm : y ∈ l.take k := List.mem_of_getElem? (i := j) (by rw [List.getElem?_take, if_pos hj]; exact hy)
      have := h3 y hm
      rw [he] at this
      simp at this
    · omega
  unfold ixI
  rw [ixN_hit hx rfl hno]
end Go.Proofs.YtaacdggjkfmehaaGreatDoor
namespace Go.Proofs.YtaacdggjkfmehaaGreatDoor
open Go.RowKit
structure CB (W : World) (b : Nat) (r : Ro) (ad : Option Addr) (m cap : Nat) : Prop where
  c : RC W b r.ep (.slice ad m cap) r.nw
  v : IsAt W (.slice ad m cap) r.l
theorem CB.below {W W' : World} {b : Nat} {r : Ro} {ad : Option Addr} {m cap : Nat} (h : CB W b r ad m cap) (hb : Below W.heap.size W W') : CB W' b r ad m cap := ⟨h.c.below hb, h.v.below hb⟩
theorem cb_new (W : World) (r : Ro) (ad : Option Addr) (cap : Nat) (h : IsAt W (.slice ad r.l.length cap) r.l) : CB (W.alloc (.cells #[.int .i64 r.ep, .slice ad r.l.length cap, .int .i64 r.nw] 24)) W.heap.size r ad r.l.length cap :=
  ⟨RC.new W r.ep ad r.l.length cap r.nw 24, h.below ((Below.refl _ _).alloc (Nat.le_refl _) _)⟩
theorem isat_two (w : World) (x y : Int) : IsAt (w.alloc (.cells #[.int .i64 x, .int .i64 y] 3)) (.slice (some ⟨w.heap.size, 0, none⟩) 2 2) [x, y] :=
  .inr ⟨w.heap.size, 0, 2, rfl, by simp, by unfold maxLen; omega, by simp, fun j z hz => by
    match j, hz with
    | 0, hz => simp at hz; subst hz; go_simp
    | 1, hz => simp at hz; subst hz; go_simp
    | j + 2, hz => simp at hz⟩
set_option maxRecDepth 100000 in
set_option maxHeartbeats 8000000 in
theorem begun9_p (w : World) : Calls Tryz.prog 45 #[] w fun e w' => e = .returned (.bool true) ∧ Below w.heap.size w w' := by
  go_enter Tryz.func45, Tryz.ntmps45
  go_wp2_with fail
  have hb0 : Below w.heap.size w ((w.alloc (.cells #[.int .i64 2, .int .i64 4] 3)).alloc (.cells #[.int .i64 1, .slice (some ⟨w.heap.size, 0, none⟩) 2 2, .int .i64 0] 24)) := ((Below.refl _ w).alloc (Nat.le_refl _) _).alloc (by simp) _
  have hi0 : IsAt (w.alloc (.cells #[.int .i64 2, .int .i64 4] 3)) (.slice (some ⟨w.heap.size, 0, none⟩) 2 2) [2, 4] := isat_two w 2 4
  have HR1 : Hid (CB ((w.alloc (.cells #[.int .i64 2, .int .i64 4] 3)).alloc (.cells #[.int .i64 1, .slice (some ⟨w.heap.size, 0, none⟩) 2 2, .int .i64 0] 24)) (w.heap.size + 1) ⟨1, [2, 4], 0⟩ (some ⟨w.heap.size, 0, none⟩) 2 2) := Lib.hid (by
    have := cb_new (w.alloc (.cells #[.int .i64 2, .int .i64 4] 3)) ⟨1, [2, 4], 0⟩ (some ⟨w.heap.size, 0, none⟩) 2 hi0
    simpa using this)
  have HB0 := Lib.hid hb0
  clear hb0 hi0
  generalize (w.alloc (.cells #[.int .i64 2, .int .i64 4] 3)).alloc (.cells #[.int .i64 1, .slice (some ⟨w.heap.size, 0, none⟩) 2 2, .int .i64 0] 24) = W1 at *
  refine (add_p 1 0 1 _ [2, 4] W1 HR1.out.v (by simp)).mono ?_
  rw [show addR ⟨1, [2, 4], 0⟩ 1 = (⟨2, [2, 4, 1], 1⟩, true) by kernel_rfl]
  rintro _ w2 ⟨a2, c2, rfl, ho, hy⟩
  dsimp only at ho ⊢
  simp only [List.length_cons, List.length_nil, Nat.zero_add, Nat.reduceAdd] at ho ⊢
  have hb : Below W1.heap.size W1 (w2.alloc (.cells #[.int .i64 2, .slice a2 3 c2, .int .i64 1] 24)) := hy.alloc hy.size _
  replace HR1 := Lib.hid (HR1.out.below hb)
  have HR2 : Hid (CB (w2.alloc (.cells #[.int .i64 2, .slice a2 3 c2, .int .i64 1] 24)) w2.heap.size ⟨2, [2, 4, 1], 1⟩ a2 3 c2) := Lib.hid (cb_new w2 ⟨2, [2, 4, 1], 1⟩ a2 c2 ho.at)
  replace HB0 := Lib.hid (HB0.out.trans (hb.mono HB0.out.size))
  clear hy hb ho
  go_wp2_with fail
  generalize (w2.alloc (.cells #[.int .i64 2, .slice a2 3 c2, .int .i64 1] 24)) = W2 at *
  generalize w2.heap.size = B2 at *
  refine (drop_p 2 1 2 _ [2, 4, 1] W2 HR2.out.v (by simp)).mono ?_
  rw [show dropR ⟨2, [2, 4, 1], 1⟩ 2 = (⟨3, [4, 1], 1⟩, true) by kernel_rfl]
  rintro _ w3 ⟨a3, c3, rfl, ho, hy⟩
  dsimp only at ho ⊢
  simp only [List.length_cons, List.length_nil, Nat.zero_add, Nat.reduceAdd] at ho ⊢
  have hb : Below W2.heap.size W2 (w3.alloc (.cells #[.int .i64 3, .slice a3 2 c3, .int .i64 1] 24)) := hy.alloc hy.size _
  replace HR1 := Lib.hid (HR1.out.below hb)
  replace HR2 := Lib.hid (HR2.out.below hb)
  have HR3 : Hid (CB (w3.alloc (.cells #[.int .i64 3, .slice a3 2 c3, .int .i64 1] 24)) w3.heap.size ⟨3, [4, 1], 1⟩ a3 2 c3) := Lib.hid (cb_new w3 ⟨3, [4, 1], 1⟩ a3 c3 ho.at)
  replace HB0 := Lib.hid (HB0.out.trans (hb.mono HB0.out.size))
  clear hy hb ho
  obtain ⟨⟨p0, p1, p2⟩, _⟩ := HR2.out.c
  dsimp only at p0 p1 p2
  go_wp2_with fail
  clear p0 p1 p2
  generalize (w3.alloc (.cells #[.int .i64 3, .slice a3 2 c3, .int .i64 1] 24)) = W3 at *
  generalize w3.heap.size = B3 at *
  refine (add_p 2 1 5 _ [2, 4, 1] W3 HR2.out.v (by simp)).mono ?_
  rw [show addR ⟨2, [2, 4, 1], 1⟩ 5 = (Ro.zero, false) by kernel_rfl]
  rintro _ w4 ⟨a4, c4, rfl, ho, hy⟩
  dsimp only [Ro.zero] at ho ⊢
  simp only [List.length_nil] at ho ⊢
  have hb : Below W3.heap.size W3 (w4.alloc (.cells #[.int .i64 0, .slice a4 0 c4, .int .i64 0] 24)) := hy.alloc hy.size _
  replace HR1 := Lib.hid (HR1.out.below hb)
  replace HR2 := Lib.hid (HR2.out.below hb)
  replace HR3 := Lib.hid (HR3.out.below hb)
  have HR4 : Hid (CB (w4.alloc (.cells #[.int .i64 0, .slice a4 0 c4, .int .i64 0] 24)) w4.heap.size Ro.zero a4 0 c4) := Lib.hid (cb_new w4 Ro.zero a4 c4 ho.at)
  replace HB0 := Lib.hid (HB0.out.trans (hb.mono HB0.out.size))
  clear hy hb ho
  go_wp2_with fail
  clear HR4
  have hs4 : (w4.alloc (.cells #[.int .i64 0, .slice a4 0 c4, .int .i64 0] 24)).heap.size = w4.heap.size + 1 := by simp
  generalize (w4.alloc (.cells #[.int .i64 0, .slice a4 0 c4, .int .i64 0] 24)) = W4 at *
  have hi5 : IsAt (W4.alloc (.cells #[.int .i64 2, .int .i64 4] 3)) (.slice (some ⟨W4.heap.size, 0, none⟩) 2 2) [2, 4] := isat_two W4 2 4
  have hb5 : Below W4.heap.size W4 (W4.alloc (.cells #[.int .i64 2, .int .i64 4] 3)) := (Below.refl _ _).alloc (Nat.le_refl _) _
  replace HR1 := Lib.hid (HR1.out.below hb5)
  replace HR2 := Lib.hid (HR2.out.below hb5)
  replace HR3 := Lib.hid (HR3.out.below hb5)
  replace HB0 := Lib.hid (HB0.out.trans (hb5.mono HB0.out.size))
  clear hb5
  rw [hs4] at hi5
  clear hs4
  generalize w4.heap.size + 1 = S5 at *
  generalize W4.alloc (.cells #[.int .i64 2, .int .i64 4] 3) = W5 at *
  refine (drop_p 1 4 2 _ [2, 4] W5 hi5 (by simp)).mono ?_
  rw [show dropR ⟨1, [2, 4], 4⟩ 2 = (Ro.zero, false) by kernel_rfl]
  rintro _ w5 ⟨a5, c5, rfl, ho, hy⟩
  dsimp only [Ro.zero] at ho ⊢
  simp only [List.length_nil] at ho ⊢
  have hb : Below W5.heap.size W5 (w5.alloc (.cells #[.int .i64 0, .slice a5 0 c5, .int .i64 0] 24)) := hy.alloc hy.size _
  replace HR1 := Lib.hid (HR1.out.below hb)
  replace HR2 := Lib.hid (HR2.out.below hb)
  replace HR3 := Lib.hid (HR3.out.below hb)
  replace HB0 := Lib.hid (HB0.out.trans (hb.mono HB0.out.size))
  clear hy hb ho hi5
  obtain ⟨⟨p0, p1, p2⟩, _⟩ := HR1.out.c
  dsimp only at p0 p1 p2
  go_wp2_with fail
  clear p0 p1 p2
  generalize w5.alloc (.cells #[.int .i64 0, .slice a5 0 c5, .int .i64 0] 24) = V0 at *
  refine (romay_p 1 0 _ [2, 4] V0 HR1.out.v (by simp)).mono ?_
  rw [show mayR ⟨1, [2, 4], 0⟩ = true by kernel_rfl]
  rintro _ V1 ⟨rfl, hb⟩
  replace HR1 := Lib.hid (HR1.out.below hb)
  replace HR2 := Lib.hid (HR2.out.below hb)
  replace HR3 := Lib.hid (HR3.out.below hb)
  replace HB0 := Lib.hid (HB0.out.trans (hb.mono HB0.out.size))
  clear hb
  obtain ⟨⟨p0, p1, p2⟩, _⟩ := HR1.out.c
  dsimp only at p0 p1 p2
  go_wp2_with fail
  clear p0 p1 p2
  refine (romay_p 0 0 _ [] V1 (.inl ⟨rfl, rfl⟩) (by simp)).mono ?_
  rw [show mayR ⟨0, [], 0⟩ = false by kernel_rfl]
  rintro _ V2 ⟨rfl, hb⟩
  replace HR1 := Lib.hid (HR1.out.below hb)
  replace HR2 := Lib.hid (HR2.out.below hb)
  replace HR3 := Lib.hid (HR3.out.below hb)
  replace HB0 := Lib.hid (HB0.out.trans (hb.mono HB0.out.size))
  clear hb
  obtain ⟨⟨p0, p1, p2⟩, _⟩ := HR1.out.c
  dsimp only at p0 p1 p2
  go_wp2_with fail
  clear p0 p1 p2
  refine (has_p 1 0 4 _ [2, 4] V2 HR1.out.v (by simp)).mono ?_
  rw [show hasI [2, 4] 4 = true by kernel_rfl]
  rintro _ V3 ⟨rfl, hb⟩
  replace HR1 := Lib.hid (HR1.out.below hb)
  replace HR2 := Lib.hid (HR2.out.below hb)
  replace HR3 := Lib.hid (HR3.out.below hb)
  replace HB0 := Lib.hid (HB0.out.trans (hb.mono HB0.out.size))
  clear hb
  obtain ⟨⟨p0, p1, p2⟩, _⟩ := HR1.out.c
  dsimp only at p0 p1 p2
  go_wp2_with fail
  clear p0 p1 p2
  refine (has_p 1 0 1 _ [2, 4] V3 HR1.out.v (by simp)).mono ?_
  rw [show hasI [2, 4] 1 = false by kernel_rfl]
  rintro _ V4 ⟨rfl, hb⟩
  replace HR1 := Lib.hid (HR1.out.below hb)
  replace HR2 := Lib.hid (HR2.out.below hb)
  replace HR3 := Lib.hid (HR3.out.below hb)
  replace HB0 := Lib.hid (HB0.out.trans (hb.mono HB0.out.size))
  clear hb
  obtain ⟨⟨p0, p1, p2⟩, _⟩ := HR1.out.c
  dsimp only at p0 p1 p2
  go_wp2_with fail
  clear p0 p1 p2
  refine (head_p 1 0 _ [2, 4] V4 HR1.out.v).mono ?_
  rw [show getI [2, 4] 0 = 2 by kernel_rfl]
  rintro _ V5 ⟨rfl, hb⟩
  replace HR1 := Lib.hid (HR1.out.below hb)
  replace HR2 := Lib.hid (HR2.out.below hb)
  replace HR3 := Lib.hid (HR3.out.below hb)
  replace HB0 := Lib.hid (HB0.out.trans (hb.mono HB0.out.size))
  clear hb
  obtain ⟨⟨p0, p1, p2⟩, _⟩ := HR1.out.c
  dsimp only at p0 p1 p2
  go_wp2_with fail
  clear p0 p1 p2
  refine (tail_p 1 0 _ [2, 4] V5 HR1.out.v (by simp)).mono ?_
  rw [show tailI [2, 4] = 4 by kernel_rfl]
  rintro _ V6 ⟨rfl, hb⟩
  replace HR1 := Lib.hid (HR1.out.below hb)
  replace HR2 := Lib.hid (HR2.out.below hb)
  replace HR3 := Lib.hid (HR3.out.below hb)
  replace HB0 := Lib.hid (HB0.out.trans (hb.mono HB0.out.size))
  clear hb
  obtain ⟨⟨p0, p1, p2⟩, _⟩ := HR1.out.c
  dsimp only at p0 p1 p2
  go_wp2_with fail
  clear p0 p1 p2
  refine (next_p 1 0 2 _ [2, 4] V6 HR1.out.v (by simp)).mono ?_
  rw [show nextI [2, 4] 2 = 4 by kernel_rfl]
  rintro _ V7 ⟨rfl, hb⟩
  replace HR1 := Lib.hid (HR1.out.below hb)
  replace HR2 := Lib.hid (HR2.out.below hb)
  replace HR3 := Lib.hid (HR3.out.below hb)
  replace HB0 := Lib.hid (HB0.out.trans (hb.mono HB0.out.size))
  clear hb
  obtain ⟨⟨p0, p1, p2⟩, _⟩ := HR1.out.c
  dsimp only at p0 p1 p2
  go_wp2_with fail
  clear p0 p1 p2
  refine (ahead_p 1 0 2 _ [2, 4] V7 HR1.out.v (by simp)).mono ?_
  rw [show aheadI [2, 4] 2 = 0 by kernel_rfl]
  rintro _ V8 ⟨rfl, hb⟩
  replace HR1 := Lib.hid (HR1.out.below hb)
  replace HR2 := Lib.hid (HR2.out.below hb)
  replace HR3 := Lib.hid (HR3.out.below hb)
  replace HB0 := Lib.hid (HB0.out.trans (hb.mono HB0.out.size))
  clear hb
  obtain ⟨⟨p0, p1, p2⟩, _⟩ := HR2.out.c
  obtain ⟨⟨q0, q1, q2⟩, _⟩ := HR3.out.c
  dsimp only at p0 p1 p2 q0 q1 q2
  go_wp2_with fail
  go_ret
  exact ⟨rfl, HB0.out⟩
end Go.Proofs.YtaacdggjkfmehaaGreatDoor
