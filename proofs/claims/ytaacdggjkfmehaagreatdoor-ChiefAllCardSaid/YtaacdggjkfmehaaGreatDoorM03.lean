/-
  Contracts of the program, and what they rest on.
-/
import Derived.Maps.Ext
import Derived.Sort.KeysCollected
import Derived.Test.YtaacdggjkfmehaaGreatDoorProg
import Derived.Test.YtaacdggjkfmehaaGreatDoorShelf
import Derived.WalkKit
import Derived.WalkSpells
import Derived.WalkLawsBesides
import Derived.Lib.Hide
import Derived.Lib.Strings
import Derived.Lib.AppendStr
import Derived.Maps.OwnSet
import Derived.Maps.RangeWalk
import Derived.Maps.AppendAt
import Derived.LoopTactic
import Derived.OneCell
import Derived.Test.YtaacdggjkfmehaaGreatDoorM02
namespace Go.Proofs.MapD
open Go.Maps Go.ChangeMaps Go.WideShapes
abbrev DU := DataW Unit
def kl (n : ByteArray) : Lit := .string n.data.toList
theorem kl_inj {a b : ByteArray} (h : kl a = kl b) : a = b := by
  unfold kl at h
  injection h with h
  cases a; cases b
  simp at h
  rw [h]
theorem kl_key (n : ByteArray) : WideAt.IsKeyLit (kl n) := trivial
def ptrElem (v : Value) : Option (DU × List MemPlace) :=
  match v with
  | .pointer (some ⟨b, 0, none⟩) => some (.lit (.int .i64 b), [])
  | .pointer none => some (.lit (.bool false), [])
  | _ => none
theorem ptr_mk (b : Nat) : ptrElem (.pointer (some ⟨b, 0, none⟩)) = some (.lit (.int .i64 b), []) := rfl
theorem ptr_nil : ptrElem (.pointer none) = some (.lit (.bool false), []) := rfl
theorem ptr_inv {v : Value} {ps : List MemPlace} {b : Nat} (h : ptrElem v = some (.lit (.int .i64 b), ps)) : v = .pointer (some ⟨b, 0, none⟩) := by
  unfold ptrElem at h
  split at h
  · rename_i b'
    have e : b' = b := by
      have := congrArg (fun x => x.map Prod.fst) h
      simp at this
      omega
    rw [e]
  · simp at h
  · cases h
theorem ptr_nil_inv {v : Value} {ps : List MemPlace} (h : ptrElem v = some (.lit (.bool false), ps)) : v = .pointer none := by
  unfold ptrElem at h
  split at h
  · simp at h
  · rfl
  · cases h
abbrev NB := ByteArray × Nat
def ent (e : NB) : Lit × DU := (kl e.1, .lit (.int .i64 e.2))
def D (L : List NB) : DU := .map ((L.map ent).foldr DataW.insert [])
abbrev names (L : List NB) : List ByteArray := L.map Prod.fst
def Kd (l : Lit) : Prop := ∃ s, l = .string s
theorem one : OneKind Kd := ⟨fun ⟨_, h⟩ => by rw [h]; trivial, fun ha hb hne => before_total ha hb hne⟩
theorem keys_ent (L : List NB) : Keys Kd (L.map ent) := by
  intro p hp
  obtain ⟨e, _, rfl⟩ := List.mem_map.1 hp
  exact ⟨_, rfl⟩
theorem apart_ent {L : List NB} (h : (names L).Nodup) : (L.map ent).Pairwise (fun p q => p.1 ≠ q.1) := by
  unfold List.Nodup at h
  rw [List.pairwise_map] at h ⊢
  exact h.imp (fun {a b} hab e => hab (kl_inj e))
theorem D_size (L : List NB) : Maps.size (D L) = L.length := by
  show ((L.map ent).foldr DataW.insert []).length = _
  rw [(sorted_perm _).length_eq, List.length_map]
theorem D_perm {L L' : List NB} (h : (names L).Nodup) (hp : L.Perm L') : D L = D L' := by
  unfold D
  have h' : (names L').Nodup := (hp.map Prod.fst).nodup_iff.1 h
  have := eq_of_perm_sorted (((sorted_perm (L.map ent)).trans (hp.map ent)).trans (sorted_perm (L'.map ent)).symm) (sorted_sorted one _ (keys_ent L) (apart_ent h)) (sorted_sorted one _ (keys_ent L') (apart_ent h'))
  rw [this]
theorem notKey_ent (n : ByteArray) (e : NB) : notKey (kl n) (ent e) = decide (e.1 ≠ n) := by
  rw [Bool.eq_iff_iff, notKey_iff (kl_key n), decide_eq_true_iff]
  exact ⟨fun h e1 => h (by rw [← e1]; rfl), fun h e1 => h (kl_inj e1)⟩
theorem filter_ent (n : ByteArray) (L : List NB) : (L.map ent).filter (notKey (kl n)) = (L.filter fun e => decide (e.1 ≠ n)).map ent := by
  rw [List.filter_map]
  congr 1
  apply List.filter_congr
  intro e _
  exact notKey_ent n e
theorem D_del {L : List NB} (h : (names L).Nodup) (n : ByteArray) : (D L).del (kl n) = D (L.filter fun e => decide (e.1 ≠ n)) := by
  have := sorted_del (k := kl n) (E' := (L.filter fun e => decide (e.1 ≠ n)).map ent) one (keys_ent L) (apart_ent h) (by rw [filter_ent])
  unfold D
  rw [this]
  rfl
theorem D_put {L : List NB} (h : (names L).Nodup) (n : ByteArray) (b : Nat) : (D L).put (kl n) (.lit (.int .i64 b)) = D ((n, b) :: L.filter fun e => decide (e.1 ≠ n)) := by
  have := sorted_put (k := kl n) (d := (.lit (.int .i64 b) : DU)) (E' := ((n, b) :: L.filter fun e => decide (e.1 ≠ n)).map ent) one ⟨_, rfl⟩ (keys_ent L) (apart_ent h) (by rw [List.map_cons, filter_ent]; exact .refl _)
  unfold D
  rw [this]
  rfl
theorem D_at {L : List NB} (h : (names L).Nodup) {e : NB} (he : e ∈ L) (z : DU) : (D L).atKey (kl e.1) z = .lit (.int .i64 e.2) := by
  have hap : ((L.map ent).foldr DataW.insert []).Pairwise (fun p q => p.1 ≠ q.1) := ((sorted_perm (L.map ent)).pairwise_iff (fun {_ _} hne => Ne.symm hne)).2 (apart_ent h)
  exact WideAt.atKey_mem z (kl_key _) hap ((sorted_perm _).mem_iff.2 (List.mem_map.2 ⟨e, he, rfl⟩))
theorem D_has (L : List NB) (n : ByteArray) : Maps.has (D L) (kl n) = L.any (fun e => decide (e.1 = n)) := by
  rw [Bool.eq_iff_iff, List.any_eq_true]
  constructor
  · intro h
    obtain ⟨p, hp, hs⟩ := List.any_eq_true.1 h
    obtain ⟨e, he, rfl⟩ := List.mem_map.1 ((sorted_perm _).mem_iff.1 hp)
    exact ⟨e, he, decide_eq_true (kl_inj (WideAt.sameKey_eq hs))⟩
  · rintro ⟨e, he, h⟩
    obtain rfl := of_decide_eq_true h
    exact List.any_eq_true.2 ⟨ent e, (sorted_perm _).mem_iff.2 (List.mem_map.2 ⟨e, he, rfl⟩), WideAt.sameKey_self (kl_key _)⟩
theorem D_key {L : List NB} {l : Lit} (h : Maps.has (D L) l = true) : ∃ e ∈ L, l = kl e.1 := by
  obtain ⟨p, hp, hs⟩ := List.any_eq_true.1 h
  obtain ⟨e, he, rfl⟩ := List.mem_map.1 ((sorted_perm _).mem_iff.1 hp)
  exact ⟨e, he, (WideAt.sameKey_eq hs).symm⟩
end Go.Proofs.MapD
namespace Go.Proofs.Chest
structure Rl where
  t : ByteArray
  p : Nat
  s : Bool
abbrev Rolls := List (ByteArray × Rl)
structure St where
  room : Nat
  l : Rolls
def okB (c : UInt8) : Bool := decide (65 ≤ c.toNat) && decide (c.toNat ≤ 90)
def okName (n : ByteArray) : Bool := decide (1 ≤ n.size) && decide (n.size ≤ 10) && n.data.toList.all okB
def get : Rolls → ByteArray → Option Rl
  | [], _ => none
  | e :: r, n => if e.1 = n then some e.2 else get r n
def set (l : Rolls) (n : ByteArray) (x : Rl) : Rolls := l.map fun e => if e.1 = n then (n, x) else e
def del (l : Rolls) (n : ByteArray) : Rolls := l.filter fun e => decide (e.1 ≠ n)
def total (l : Rolls) : Nat := (l.map fun e => e.2.t.size).sum
def write (st : St) (n s : ByteArray) : Int × St :=
  if okName n = false then (1, st) else if st.room < s.size then (5, st) else
    match get st.l n with
    | none => (0, ⟨st.room - s.size, (n, ⟨s, 0, false⟩) :: st.l⟩)
    | some r => (0, ⟨st.room - s.size, set st.l n ⟨r.t ++ s, r.p, r.s⟩⟩)
def press (st : St) (n : ByteArray) : Int × St :=
  match get st.l n with
  | none => (6, st)
  | some r => (0, ⟨st.room, set st.l n ⟨r.t, r.t.size, true⟩⟩)
def cut (st : St) (n : ByteArray) (k : Int) : Int × St :=
  match get st.l n with
  | none => (6, st)
  | some r => if k < 0 ∨ (r.t.size : Int) < k then (4, st) else (0, ⟨st.room + (r.t.size - k.toNat), set st.l n ⟨r.t.extract 0 k.toNat, min r.p k.toNat, true⟩⟩)
def call (st : St) (f t : ByteArray) : Int × St :=
  if okName t = false then (1, st) else
    match get st.l f with
    | none => (6, st)
    | some r => if f = t then (0, st) else
        (0, ⟨st.room + (match get st.l t with | none => 0 | some o => o.t.size), (t, ⟨r.t, r.p, true⟩) :: del (del st.l f) t⟩)
def stays (r : Rl) (n : Int) : Nat := r.p + n.toNat % (r.t.size - r.p + 1)
def torn (r : Rl) (n : Int) : Option Rl := if 0 < stays r n ∨ r.s = true then some ⟨r.t.extract 0 (stays r n), stays r n, true⟩ else none
def tear (st : St) (n : Int) : St :=
  ⟨st.room + (st.l.map fun e => e.2.t.size - stays e.2 n).sum, st.l.filterMap fun e => (torn e.2 n).map fun r => (e.1, r)⟩
structure Wf (st : St) : Prop where
  apart : (st.l.map Prod.fst).Nodup
  pressed : ∀ e ∈ st.l, e.2.p ≤ e.2.t.size
  names : ∀ e ∈ st.l, okName e.1 = true
  room : st.room + total st.l ≤ 1048576
theorem get_none {l : Rolls} {n : ByteArray} : get l n = none ↔ ∀ e ∈ l, e.1 ≠ n := by
  induction l with
  | nil => simp [get]
  | cons e r ih =>
    unfold get
    by_cases h : e.1 = n
    · simp [h]
    · simp [h, ih]
theorem get_mem {l : Rolls} {n : ByteArray} {x : Rl} (h : get l n = some x) : (n, x) ∈ l := by
  induction l with
  | nil => simp [get] at h
  | cons e r ih =>
    unfold get at h
    by_cases h1 : e.1 = n
    · rw [if_pos h1] at h
      obtain rfl := Option.some.inj h
      subst h1
      simp
    · rw [if_neg h1] at h
      simp [ih h]
theorem get_of_mem {l : Rolls} (ha : (l.map Prod.fst).Nodup) {n : ByteArray} {x : Rl} (h : (n, x) ∈ l) : get l n = some x := by
  induction l with
  | nil => simp at h
  | cons e r ih =>
    rw [List.map_cons, List.nodup_cons] at ha
    unfold get
    rcases List.mem_cons.1 h with rfl | h
    · simp
    · have : e.1 ≠ n := by
        rintro rfl
        exact ha.1 (List.mem_map.2 ⟨_, h, rfl⟩)
      rw [if_neg this]
      exact ih ha.2 h
theorem names_set (l : Rolls) (n : ByteArray) (x : Rl) : (set l n x).map Prod.fst = l.map Prod.fst := by
  unfold set
  rw [List.map_map]
  apply List.map_congr_left
  intro e _
  simp only [Function.comp]
  split
  · rename_i h; exact h.symm
  · rfl
theorem mem_set {l : Rolls} {n : ByteArray} {x : Rl} {e : ByteArray × Rl} (h : e ∈ set l n x) : (e = (n, x) ∧ ∃ y, (n, y) ∈ l) ∨ (e ∈ l ∧ e.1 ≠ n) := by
  obtain ⟨a, ha, rfl⟩ := List.mem_map.1 h
  by_cases h1 : a.1 = n
  · left
    rw [if_pos h1]
    exact ⟨rfl, a.2, by rw [← h1]; exact ha⟩
  · right
    rw [if_neg h1]
    exact ⟨ha, h1⟩
theorem total_set {l : Rolls} (ha : (l.map Prod.fst).Nodup) {n : ByteArray} {x y : Rl} (h : get l n = some y) : total (set l n x) + y.t.size = total l + x.t.size := by
  induction l with
  | nil => simp [get] at h
  | cons e r ih =>
    rw [List.map_cons, List.nodup_cons] at ha
    unfold get at h
    unfold total set
    by_cases h1 : e.1 = n
    · rw [if_pos h1] at h
      obtain rfl := Option.some.inj h
      have : r.map (fun e => if e.1 = n then (n, x) else e) = r := by
        conv => rhs; rw [← List.map_id r]
        apply List.map_congr_left
        intro a ha'
        have : a.1 ≠ n := by
          intro h2
          exact ha.1 (List.mem_map.2 ⟨a, ha', by rw [h2, h1]⟩)
        simp [this]
      simp only [List.map_cons, List.sum_cons, if_pos h1, this]
      omega
    · rw [if_neg h1] at h
      have := ih ha.2 h
      unfold total set at this
      simp only [List.map_cons, List.sum_cons, if_neg h1]
      omega
theorem total_del {l : Rolls} (ha : (l.map Prod.fst).Nodup) {n : ByteArray} : total (del l n) + (match get l n with | none => 0 | some y => y.t.size) = total l := by
  induction l with
  | nil => simp [get, total, del]
  | cons e r ih =>
    rw [List.map_cons, List.nodup_cons] at ha
    unfold get
    by_cases h1 : e.1 = n
    · have : del r n = r := by
        apply List.filter_eq_self.2
        intro a ha'
        simp only [decide_eq_true_eq]
        intro h2
        exact ha.1 (List.mem_map.2 ⟨a, ha', by rw [h2, h1]⟩)
      simp only [if_pos h1]
      have e1 : del (e :: r) n = r := by
        have : del (e :: r) n = del r n := by simp [del, h1]
        rw [this]; assumption
      rw [e1]
      simp [total]
      omega
    · have := ih ha.2
      have e1 : del (e :: r) n = e :: del r n := by simp [del, h1]
      rw [if_neg h1, e1]
      unfold total at this ⊢
      simp only [List.map_cons, List.sum_cons]
      omega
theorem total_le {l : Rolls} {e : ByteArray × Rl} (h : e ∈ l) : e.2.t.size ≤ total l := by
  induction l with
  | nil => simp at h
  | cons a r ih =>
    unfold total at ih ⊢
    simp only [List.map_cons, List.sum_cons]
    rcases List.mem_cons.1 h with rfl | h
    · omega
    · have := ih h; omega
theorem names_del (l : Rolls) (n : ByteArray) : (del l n).map Prod.fst = (l.map Prod.fst).filter fun m => decide (m ≠ n) := by
  unfold del
  rw [List.filter_map]
  rfl
theorem nodup_del {l : Rolls} (n : ByteArray) (h : (l.map Prod.fst).Nodup) : ((del l n).map Prod.fst).Nodup := by
  rw [names_del]
  exact h.filter _
theorem not_mem_del (l : Rolls) (n : ByteArray) : n ∉ (del l n).map Prod.fst := by
  rw [names_del]
  simp
theorem get_del_other {l : Rolls} {n m : ByteArray} (h : m ≠ n) : get (del l n) m = get l m := by
  induction l with
  | nil => rfl
  | cons e r ih =>
    by_cases h1 : e.1 = n
    · have e1 : del (e :: r) n = del r n := by simp [del, h1]
      rw [e1, ih]
      conv => rhs; unfold get
      rw [if_neg (by rw [h1]; exact fun h2 => h h2.symm)]
    · have e1 : del (e :: r) n = e :: del r n := by simp [del, h1]
      rw [e1]
      unfold get
      rw [ih]
theorem stays_le (r : Rl) (n : Int) (h : r.p ≤ r.t.size) : r.p ≤ stays r n ∧ stays r n ≤ r.t.size := by
  unfold stays
  have := Nat.mod_lt n.toNat (show 0 < r.t.size - r.p + 1 by omega)
  omega
theorem wf_new (room : Nat) (h : room ≤ 1048576) : Wf ⟨room, []⟩ := ⟨by simp, by simp, by simp, by simpa [total] using h⟩
theorem wf_write {st : St} (h : Wf st) (n s : ByteArray) : Wf (write st n s).2 := by
  unfold write
  split
  · exact h
  · rename_i hn
    split
    · exact h
    · rename_i hr
      split
      · rename_i hg
        refine ⟨?_, ?_, ?_, ?_⟩
        · rw [List.map_cons, List.nodup_cons]
          exact ⟨fun hm => by
            obtain ⟨e, he, h1⟩ := List.mem_map.1 hm
            exact get_none.1 hg e he h1, h.apart⟩
        · intro e he
          rcases List.mem_cons.1 he with rfl | he
          · exact Nat.zero_le _
          · exact h.pressed e he
        · intro e he
          rcases List.mem_cons.1 he with rfl | he
          · simpa using hn
          · exact h.names e he
        · have := h.room
          unfold total at this ⊢
          simp only [List.map_cons, List.sum_cons]
          omega
      · rename_i r hg
        have hm := get_mem hg
        refine ⟨?_, ?_, ?_, ?_⟩
        · rw [names_set]; exact h.apart
        · intro e he
          rcases mem_set he with ⟨rfl, _⟩ | ⟨he, _⟩
          · have := h.pressed _ hm
            simp only [ByteArray.size_append] at *
            omega
          · exact h.pressed e he
        · intro e he
          rcases mem_set he with ⟨rfl, y, hy⟩ | ⟨he, _⟩
          · have := h.names (n, y) hy; exact this
          · exact h.names e he
        · have := h.room
          have h2 := total_set (x := ⟨r.t ++ s, r.p, r.s⟩) h.apart hg
          simp only [ByteArray.size_append] at *
          omega
theorem wf_press {st : St} (h : Wf st) (n : ByteArray) : Wf (press st n).2 := by
  unfold press
  split
  · exact h
  · rename_i r hg
    refine ⟨?_, ?_, ?_, ?_⟩
    · rw [names_set]; exact h.apart
    · intro e he
      rcases mem_set he with ⟨rfl, _⟩ | ⟨he, _⟩
      · exact Nat.le_refl _
      · exact h.pressed e he
    · intro e he
      rcases mem_set he with ⟨rfl, y, hy⟩ | ⟨he, _⟩
      · have := h.names (n, y) hy; exact this
      · exact h.names e he
    · have := h.room
      have h2 := total_set (x := ⟨r.t, r.t.size, true⟩) h.apart hg
      simp only at *
      omega
theorem wf_cut {st : St} (h : Wf st) (n : ByteArray) (k : Int) : Wf (cut st n k).2 := by
  unfold cut
  split
  · exact h
  · rename_i r hg
    split
    · exact h
    · rename_i hk
      have hz : (r.t.extract 0 k.toNat).size = k.toNat := by rw [ByteArray.size_extract]; omega
      refine ⟨?_, ?_, ?_, ?_⟩
      · rw [names_set]; exact h.apart
      · intro e he
        rcases mem_set he with ⟨rfl, _⟩ | ⟨he, _⟩
        · simp only [hz]; omega
        · exact h.pressed e he
      · intro e he
        rcases mem_set he with ⟨rfl, y, hy⟩ | ⟨he, _⟩
        · have := h.names (n, y) hy; exact this
        · exact h.names e he
      · have := h.room
        have h2 := total_set (x := ⟨r.t.extract 0 k.toNat, min r.p k.toNat, true⟩) h.apart hg
        simp only [hz] at *
        omega
theorem wf_call {st : St} (h : Wf st) (f t : ByteArray) : Wf (call st f t).2 := by
  unfold call
  split
  · exact h
  · rename_i ht
    split
    · exact h
    · rename_i r hg
      split
      · exact h
      · rename_i hne
        refine ⟨?_, ?_, ?_, ?_⟩
        · rw [List.map_cons, List.nodup_cons]
          exact ⟨not_mem_del _ _, nodup_del t (nodup_del f h.apart)⟩
        · intro e he
          rcases List.mem_cons.1 he with rfl | he
          · have := h.pressed (f, r) (get_mem hg); exact this
          · exact h.pressed e (List.mem_filter.1 (List.mem_filter.1 he).1).1
        · intro e he
          rcases List.mem_cons.1 he with rfl | he
          · simpa using ht
          · exact h.names e (List.mem_filter.1 (List.mem_filter.1 he).1).1
        · have h0 := h.room
          have h1 := total_del (n := f) h.apart
          have h2 := total_del (n := t) (nodup_del f h.apart)
          rw [get_del_other (fun e => hne e.symm)] at h2
          rw [hg] at h1
          have e1 : total ((t, ⟨r.t, r.p, true⟩) :: del (del st.l f) t) = r.t.size + total (del (del st.l f) t) := by simp [total]
          rw [e1]
          simp only at *
          omega
theorem names_tear (l : Rolls) (n : Int) : ((l.filterMap fun e => (torn e.2 n).map fun r => (e.1, r)).map Prod.fst).Sublist (l.map Prod.fst) := by
  induction l with
  | nil => exact .slnil
  | cons e r ih =>
    rw [List.filterMap_cons]
    cases torn e.2 n with
    | none => exact ih.cons _
    | some x => exact ih.cons_cons _
theorem total_tear (l : Rolls) (n : Int) (h : ∀ e ∈ l, e.2.p ≤ e.2.t.size) : total (l.filterMap fun e => (torn e.2 n).map fun r => (e.1, r)) + (l.map fun e => e.2.t.size - stays e.2 n).sum = total l := by
  induction l with
  | nil => rfl
  | cons e r ih =>
    have := ih (fun e he => h e (by simp [he]))
    have hs := stays_le e.2 n (h e (by simp))
    rw [List.filterMap_cons, List.map_cons, List.sum_cons]
    unfold torn at this ⊢
    unfold total at this ⊢
    by_cases hc : 0 < stays e.2 n ∨ e.2.s = true
    · rw [if_pos hc]
      simp only [Option.map, List.map_cons, List.sum_cons, ByteArray.size_extract] at *
      omega
    · rw [if_neg hc]
      have h0 : stays e.2 n = 0 := by omega
      simp only [Option.map, List.map_cons, List.sum_cons, h0] at *
      omega
theorem wf_tear {st : St} (h : Wf st) (n : Int) : Wf (tear st n) := by
  refine ⟨(names_tear st.l n).nodup h.apart, ?_, ?_, ?_⟩
  · intro e he
    obtain ⟨a, ha, h1⟩ := List.mem_filterMap.1 he
    unfold torn at h1
    have hs := stays_le a.2 n (h.pressed a ha)
    split at h1
    · simp only [Option.map, Option.some.injEq] at h1
      subst h1
      simp only [ByteArray.size_extract]
      omega
    · cases h1
  · intro e he
    obtain ⟨a, ha, h1⟩ := List.mem_filterMap.1 he
    cases h2 : torn a.2 n with
    | none => rw [h2] at h1; cases h1
    | some x =>
      rw [h2] at h1
      simp only [Option.map, Option.some.injEq] at h1
      subst h1
      exact h.names a ha
  · have h0 := h.room
    have h1 := total_tear st.l n h.pressed
    unfold tear
    simp only
    omega
theorem len_set (l : Rolls) (n : ByteArray) (x : Rl) : (set l n x).length = l.length := by simp [set]
theorem len_write (st : St) (n s : ByteArray) : (write st n s).2.l.length ≤ st.l.length + 1 := by
  unfold write
  split
  · simp
  · split
    · simp
    · split
      · simp
      · simp [len_set]
theorem len_press (st : St) (n : ByteArray) : (press st n).2.l.length = st.l.length := by
  unfold press; split <;> simp [len_set]
theorem len_call (st : St) (f t : ByteArray) : (call st f t).2.l.length ≤ st.l.length + 1 := by
  unfold call
  split
  · simp
  · split
    · simp
    · split
      · simp
      · simp only [List.length_cons]
        have h1 := List.length_filter_le (fun e : ByteArray × Rl => decide (e.1 ≠ f)) st.l
        have h2 := List.length_filter_le (fun e : ByteArray × Rl => decide (e.1 ≠ t)) (del st.l f)
        unfold del at *
        omega
theorem len_tear (st : St) (n : Int) : (tear st n).l.length ≤ st.l.length := by
  unfold tear
  exact List.length_filterMap_le _ _
end Go.Proofs.Chest
namespace Go.Proofs.YtaacdggjkfmehaaGreatDoor
open Go.RowKit Go.Maps Go.Proofs.MapD Go.Proofs.Chest
structure Only (S : List Nat) (w w' : World) : Prop where
  os : w'.os = w.os
  tape : w'.tape = w.tape
  output : w'.output = w.output
  size : w.heap.size ≤ w'.heap.size
  block : ∀ k, k < w.heap.size → k ∉ S → w'.heap[k]? = w.heap[k]?
theorem Only.refl (S : List Nat) (w : World) : Only S w w := ⟨rfl, rfl, rfl, Nat.le_refl _, fun _ _ _ => rfl⟩
theorem Only.trans {S S' : List Nat} {a b c : World} (h : Only S a b) (k : Only S' b c) (hs : ∀ i ∈ S', i ∈ S ∨ a.heap.size ≤ i) : Only S a c :=
  ⟨k.os.trans h.os, k.tape.trans h.tape, k.output.trans h.output, Nat.le_trans h.size k.size, fun i hi hn =>
    (k.block i (Nat.lt_of_lt_of_le hi h.size) (fun hm => by rcases hs i hm with h1 | h1; exact hn h1; omega)).trans (h.block i hi hn)⟩
theorem Only.mono {S S' : List Nat} {a b : World} (h : Only S a b) (hs : ∀ i ∈ S, i ∈ S') : Only S' a b :=
  ⟨h.os, h.tape, h.output, h.size, fun i hi hn => h.block i hi (fun hm => hn (hs i hm))⟩
theorem Only.alloc {S : List Nat} {a b : World} (h : Only S a b) (o : Obj) : Only S a (b.alloc o) :=
  h.trans (S' := []) ⟨rfl, rfl, rfl, by simp, fun k hk _ => Below.heap_alloc _ _ _ hk⟩ (by simp)
theorem Only.drew {S : List Nat} {a b : World} (h : Only S a b) : Only S a b.drew := ⟨h.os, h.tape, h.output, h.size, h.block⟩
theorem Only.setCell {S : List Nat} {a b : World} (h : Only S a b) {p : Addr} (hp : p.block ∈ S ∨ a.heap.size ≤ p.block) (u : Value) : Only S a (b.setCell p u) :=
  h.trans (S' := [p.block]) ⟨rfl, rfl, rfl, by simp [World.setCell], fun k _ hn => Below.heap_setCell _ _ _ _ (fun e => hn (by simp [e]))⟩ (by simpa using hp)
theorem Only.grown {S : List Nat} {a b c : World} {row : Option Nat} (h : Only S a b) (hg : b.grownBy c row) (hr : ∀ k, row = some k → k ∈ S ∨ a.heap.size ≤ k) : Only S a c :=
  h.trans (S' := row.toList) ⟨hg.os, hg.tape, hg.output, hg.size, fun k hk hn => hg.block k hk (fun e => hn (by simp [← e]))⟩ (by intro i hi; exact hr i (by simpa using hi))
theorem Only.below {S : List Nat} {B : Nat} {a b : World} (h : Only S a b) (hB : B ≤ a.heap.size) (hs : ∀ i ∈ S, B ≤ i) : Below B a b :=
  ⟨h.os, h.tape, h.output, h.size, fun k hk => h.block k (by omega) (fun hm => by have := hs k hm; omega)⟩
theorem Only.of_below {a b : World} (h : Below a.heap.size a b) (S : List Nat) : Only S a b :=
  ⟨h.os, h.tape, h.output, h.size, fun k hk _ => h.block k hk⟩
structure En where
  nm : ByteArray
  rb : Nat
  v : Value
  r : Rl
def En.foot (e : En) : List Nat := e.rb :: e.v.ownBlock.toList
def Cells3 (w : World) (b : Nat) (v : Value) (p : Nat) (s : Bool) : Prop :=
  (w.cell? ⟨b, 0, none⟩ = some v ∧ w.cell? ⟨b, 1, none⟩ = some (.int .i64 p) ∧ w.cell? ⟨b, 2, none⟩ = some (.bool s)) ∧
    (w.frozen? ⟨b, 0, none⟩ = false ∧ w.frozen? ⟨b, 1, none⟩ = false ∧ w.frozen? ⟨b, 2, none⟩ = false)
theorem cell_of_block {w w' : World} {b : Nat} (e : w'.heap[b]? = w.heap[b]?) (o : Nat) : w'.cell? ⟨b, o, none⟩ = w.cell? ⟨b, o, none⟩ := World.cell?_of_block (a := ⟨b, o, none⟩) e
theorem frozen_of_block {w w' : World} {b : Nat} (e : w'.heap[b]? = w.heap[b]?) (o : Nat) : w'.frozen? ⟨b, o, none⟩ = w.frozen? ⟨b, o, none⟩ := World.frozen?_of_block (a := ⟨b, o, none⟩) e
theorem Cells3.kept {w w' : World} {b : Nat} {v : Value} {p : Nat} {s : Bool} (h : Cells3 w b v p s) (e : w'.heap[b]? = w.heap[b]?) : Cells3 w' b v p s := by
  obtain ⟨⟨h0, h1, h2⟩, z0, z1, z2⟩ := h
  have c := cell_of_block e
  have f := frozen_of_block e
  exact ⟨⟨by rw [c]; exact h0, by rw [c]; exact h1, by rw [c]; exact h2⟩, by rw [f]; exact z0, by rw [f]; exact z1, by rw [f]; exact z2⟩
theorem Cells3.lt {w : World} {b : Nat} {v : Value} {p : Nat} {s : Bool} (h : Cells3 w b v p s) : b < w.heap.size := World.block_lt_of_cell? w _ h.1.1
def Text (w : World) (v : Value) (t : ByteArray) : Prop := w.ownsRow 0 5 1 v t.size (Lib.strCells t)
def EnAt (w : World) (e : En) : Prop := Cells3 w e.rb e.v e.r.p e.r.s ∧ Text w e.v e.r.t
theorem Text.kept {w w' : World} {v : Value} {t : ByteArray} (h : Text w v t) (hk : ∀ g, v.ownBlock = some g → w'.heap[g]? = w.heap[g]?) : Text w' v t := by
  obtain ⟨h1, h2⟩ := h
  refine ⟨h1, ?_⟩
  rcases h2 with h2 | ⟨g, cap, cur, hv, hg, hh, r⟩
  · exact .inl h2
  · exact .inr ⟨g, cap, cur, hv, hg, by rw [hk g (by rw [hv]; rfl)]; exact hh, r⟩
theorem Text.lt {w : World} {v : Value} {t : ByteArray} (h : Text w v t) {g : Nat} (hg : v.ownBlock = some g) : g < w.heap.size := by
  rcases h.2 with ⟨rfl, _⟩ | ⟨g', cap, cur, rfl, _, hh, _⟩
  · cases hg
  · cases hg
    rcases Nat.lt_or_ge g' w.heap.size with h1 | h1
    · exact h1
    · rw [Array.getElem?_eq_none h1] at hh
      cases hh
theorem EnAt.kept {w w' : World} {e : En} (h : EnAt w e) (hk : ∀ k ∈ e.foot, w'.heap[k]? = w.heap[k]?) : EnAt w' e :=
  ⟨h.1.kept (hk _ (by simp [En.foot])), h.2.kept (fun g hg => hk g (by simp [En.foot, hg]))⟩
theorem EnAt.lt {w : World} {e : En} (h : EnAt w e) : ∀ k ∈ e.foot, k < w.heap.size := by
  intro k hk
  rcases List.mem_cons.1 hk with rfl | hk
  · exact h.1.lt
  · exact h.2.lt (g := k) (by simpa using hk)
def ChAt (w : World) (c : Nat) (room : Nat) (m : Option Nat) : Prop :=
  (w.cell? ⟨c, 0, none⟩ = some (.int .i64 room) ∧ w.cell? ⟨c, 1, none⟩ = some (.map m)) ∧ (w.frozen? ⟨c, 0, none⟩ = false ∧ w.frozen? ⟨c, 1, none⟩ = false)
theorem ChAt.kept {w w' : World} {c room : Nat} {m : Option Nat} (h : ChAt w c room m) (e : w'.heap[c]? = w.heap[c]?) : ChAt w' c room m := by
  obtain ⟨⟨h0, h1⟩, z0, z1⟩ := h
  have k := cell_of_block e
  have f := frozen_of_block e
  exact ⟨⟨by rw [k]; exact h0, by rw [k]; exact h1⟩, by rw [f]; exact z0, by rw [f]; exact z1⟩
theorem ChAt.lt {w : World} {c room : Nat} {m : Option Nat} (h : ChAt w c room m) : c < w.heap.size := World.block_lt_of_cell? w _ h.1.1
def nb (L : List En) : List NB := L.map fun e => (e.nm, e.rb)
def ab (L : List En) : Rolls := L.map fun e => (e.nm, e.r)
def MapN (w : World) (m : Option Nat) (N : List NB) : Prop :=
  match m with
  | none => N = []
  | some b => w.ownsMap Tryz.prog 9 ptrElem b N.length (D N)
def MapAt (w : World) (m : Option Nat) (L : List En) : Prop := MapN w m (nb L)
def foots (c : Nat) (m : Option Nat) (L : List En) : List Nat := c :: (m.toList ++ L.flatMap En.foot)
structure Apart (c : Nat) (m : Option Nat) (L : List En) : Prop where
  cm : ∀ b, m = some b → c ≠ b
  ce : ∀ e ∈ L, c ∉ e.foot
  me : ∀ b, m = some b → ∀ e ∈ L, b ∉ e.foot
  ee : ∀ e ∈ L, e.v.ownBlock ≠ some e.rb
  ll : L.Pairwise fun a b => ∀ k ∈ a.foot, k ∉ b.foot
structure RepL (w : World) (c room : Nat) (m : Option Nat) (L : List En) : Prop where
  ch : ChAt w c room m
  map : MapAt w m L
  ens : ∀ e ∈ L, EnAt w e
  apart : Apart c m L
  wf : Wf ⟨room, ab L⟩
def Rep (w : World) (c : Nat) (F : List Nat) (st : St) : Prop := ∃ m L, RepL w c st.room m L ∧ st.l = ab L ∧ F = foots c m L
theorem MapN.kept {w w' : World} {m : Option Nat} {N : List NB} (h : MapN w m N) (hk : ∀ b, m = some b → w'.heap[b]? = w.heap[b]?) : MapN w' m N := by
  cases m with
  | none => exact h
  | some b =>
    obtain ⟨es, clock, hb, r⟩ := h
    exact ⟨es, clock, by rw [hk b rfl]; exact hb, r⟩
theorem MapAt.kept {w w' : World} {m : Option Nat} {L : List En} (h : MapAt w m L) (hk : ∀ b, m = some b → w'.heap[b]? = w.heap[b]?) : MapAt w' m L := MapN.kept h hk
theorem MapAt.lt {w : World} {b : Nat} {L : List En} (h : MapAt w (some b) L) : b < w.heap.size := World.ownsMap.lt h
theorem RepL.kept {w w' : World} {c room : Nat} {m : Option Nat} {L : List En} (h : RepL w c room m L) (hk : ∀ k ∈ foots c m L, w'.heap[k]? = w.heap[k]?) : RepL w' c room m L :=
  ⟨h.ch.kept (hk _ (by simp [foots])), h.map.kept (fun b hb => hk b (by simp [foots, hb])), fun e he => (h.ens e he).kept (fun k hk' => hk k (by
    unfold foots
    exact List.mem_cons_of_mem _ (List.mem_append_right _ (List.mem_flatMap.2 ⟨e, he, hk'⟩)))), h.apart, h.wf⟩
theorem RepL.lt {w : World} {c room : Nat} {m : Option Nat} {L : List En} (h : RepL w c room m L) : ∀ k ∈ foots c m L, k < w.heap.size := by
  intro k hk
  unfold foots at hk
  rcases List.mem_cons.1 hk with rfl | hk
  · exact h.ch.lt
  · rcases List.mem_append.1 hk with hk | hk
    · cases m with
      | none => cases hk
      | some b =>
        obtain rfl : k = b := by simpa using hk
        exact h.map.lt
    · obtain ⟨e, he, hk⟩ := List.mem_flatMap.1 hk
      exact (h.ens e he).lt k hk
theorem Rep.lt {w : World} {c : Nat} {F : List Nat} {st : St} (h : Rep w c F st) : ∀ k ∈ F, k < w.heap.size := by
  obtain ⟨m, L, h, _, rfl⟩ := h
  exact h.lt
theorem Rep.wf {w : World} {c : Nat} {F : List Nat} {st : St} (h : Rep w c F st) : Wf st := by
  obtain ⟨m, L, h, e, rfl⟩ := h
  have := h.wf
  rw [← e] at this
  exact this
theorem Rep.kept {w w' : World} {c : Nat} {F : List Nat} {st : St} (h : Rep w c F st) (hk : ∀ k ∈ F, w'.heap[k]? = w.heap[k]?) : Rep w' c F st := by
  obtain ⟨m, L, h, e, rfl⟩ := h
  exact ⟨m, L, h.kept hk, e, rfl⟩
theorem Rep.only {w w' : World} {c : Nat} {F S : List Nat} {st : St} (h : Rep w c F st) (ho : Only S w w') (hd : ∀ k ∈ F, k ∉ S) : Rep w' c F st :=
  h.kept fun k hk => ho.block k (h.lt k hk) (hd k hk)
theorem Rep.below {w w' : World} {c : Nat} {F : List Nat} {st : St} (h : Rep w c F st) (ho : Below w.heap.size w w') : Rep w' c F st :=
  h.kept fun k hk => ho.block k (h.lt k hk)
theorem law : Keyed Tryz.prog 9 := string_keyed Tryz.underlying9
theorem zeroP (w : World) : (zeroValue 83).run Tryz.prog w = .ok (.pointer none) w := by kernel_rfl
theorem names_nb {w : World} {c room : Nat} {m : Option Nat} {L : List En} (h : RepL w c room m L) : (names (nb L)).Nodup := by
  have := h.wf.apart
  unfold ab at this
  simp only [List.map_map] at this
  unfold names nb
  rw [List.map_map]
  exact this
set_option maxHeartbeats 4000000 in
theorem new_p (room : Int) (w : World) :
    Calls Tryz.prog 7 #[.int .i64 room] w fun e w' => e = .returned (.pointer (some ⟨w.heap.size, 0, none⟩)) ∧ Rep w' w.heap.size [w.heap.size] ⟨(min (max room 0) 1048576).toNat, []⟩ ∧ Only [] w w' := by
  have hR : Rep (w.alloc (.cells #[.int .i64 ((min (max room 0) 1048576).toNat : Nat), .map none] 64)) w.heap.size [w.heap.size] ⟨(min (max room 0) 1048576).toNat, []⟩ := by
    refine ⟨none, [], ⟨⟨⟨?_, ?_⟩, ?_, ?_⟩, rfl, by simp, ⟨by simp, by simp, by simp, by simp, .nil⟩, wf_new _ (by show (min (max room 0) 1048576).toNat ≤ 1048576; omega)⟩, rfl, rfl⟩ <;> go_simp
  have HR := Lib.hid hR
  clear hR
  have e : (((min (max room 0) 1048576).toNat : Nat) : Int) = min (max room 0) 1048576 := by omega
  have HE := Lib.hid e
  clear e
  go_enter Tryz.func7, Tryz.ntmps7
  go_wp2
  go_ret
  refine ⟨rfl, ?_, (Only.refl _ _).alloc _⟩
  have := HR.out
  rw [HE.out] at this
  exact this
theorem okB_iff (c : UInt8) : okB c = true ↔ 65 ≤ c.toNat ∧ c.toNat ≤ 90 := by simp [okB]
theorem list_get (t : ByteArray) (k : Nat) (h : k < t.size) : t.data.toList.drop k = t[k] :: t.data.toList.drop (k + 1) :=
  List.drop_eq_getElem_cons (show k < t.data.toList.length from h)
theorem list_end (t : ByteArray) (k : Nat) (h : t.size ≤ k) : t.data.toList.drop k = [] :=
  List.drop_eq_nil_of_le (show t.data.toList.length ≤ k from h)
set_option maxRecDepth 100000 in
set_option maxHeartbeats 4000000 in
theorem may_p (t : ByteArray) (hs : t.size ≤ 9223372036854775807) (w : World) :
    Calls Tryz.prog 98 #[.string t] w fun e w' => e = .returned (.bool (okName t)) ∧ w = w' := by
  by_cases h0 : t.size = 0
  · have e1 : okName t = false := by unfold okName; simp [h0]
    have e2 : t.toList = [] := by rw [ByteArray.toList_eq]; exact List.eq_nil_of_length_eq_zero (by simpa using h0)
    have e3 : t.toList.isEmpty = true := by rw [e2]; rfl
    rw [e1]
    clear h0
    go_enter Tryz.func98, Tryz.ntmps98
    go_wp2
    go_ret
    exact ⟨rfl, rfl⟩
  · have e3 : t.toList.isEmpty = false := by
      rw [ByteArray.toList_eq]
      cases hl : t.data.toList with
      | nil => exfalso; apply h0; have := congrArg List.length hl; simpa using this
      | cons _ _ => rfl
    have e4 : (!t.toList.isEmpty) = true := by rw [e3]; rfl
    by_cases h10 : 10 < t.size
    · have e1 : okName t = false := by unfold okName; simp; omega
      rw [e1]
      go_enter Tryz.func98, Tryz.ntmps98
      go_wp2
      go_ret
      exact ⟨rfl, rfl⟩
    · obtain ⟨R, hR⟩ : ∃ R, okName t = R := ⟨_, rfl⟩
      have hA : t.data.toList.all okB = R := by
        rw [← hR]
        unfold okName
        rw [decide_eq_true (by omega : 1 ≤ t.size), decide_eq_true (by omega : t.size ≤ 10)]
        simp
      rw [hR]
      have HA := Lib.hid hA
      clear hA hR
      go_enter Tryz.func98, Tryz.ntmps98
      go_wp2
      go_loop [13] (fun i => ∃ k : Nat, k ≤ t.size ∧ i = .int .i64 k ∧ Hid ((t.data.toList.drop k).all okB = R)) (fun i => t.size - (intOf i).toNat)
      case atStart => exact ⟨0, by omega, rfl, HA⟩
      case round =>
        obtain ⟨k, hk, rfl, HP⟩ := hrel
        by_cases hlt : k < t.size
        · have hP := HP.out
          rw [list_get t k hlt, List.all_cons] at hP
          have hlt' : (k : Int) < (t.size : Int) := by omega
          by_cases hb : 65 ≤ t[k].toNat ∧ t[k].toNat ≤ 90
          · obtain ⟨b0, b1⟩ := hb
            rw [(okB_iff _).2 ⟨b0, b1⟩, Bool.true_and] at hP
            have HQ := Lib.hid hP
            clear hP
            go_wp2
            all_goals
              go_round
              case rel => exact ⟨k + 1, by omega, by go_num, HQ⟩
              case measure => simp [intOf]; omega
          · have hR : R = false := by
              rw [← hP]
              have : okB t[k] = false := by
                cases h : okB t[k] with
                | false => rfl
                | true => exact absurd ((okB_iff _).1 h) hb
              rw [this]; rfl
            subst hR
            clear hP
            by_cases b0 : 65 ≤ t[k].toNat
            · have b1 : 90 < t[k].toNat := by omega
              clear hb
              go_wp2
              go_ret
              exact ⟨rfl, rfl⟩
            · have b1 : t[k].toNat < 65 := by omega
              clear hb b0
              go_wp2
              go_ret
              exact ⟨rfl, rfl⟩
        · have hge : k = t.size := by omega
          have hP := HP.out
          rw [list_end t k (by omega)] at hP
          obtain rfl : R = true := hP.symm
          clear hP hge HP HA
          go_wp2
          go_ret
          exact ⟨rfl, rfl⟩
end Go.Proofs.YtaacdggjkfmehaaGreatDoor
namespace Go.Proofs.YtaacdggjkfmehaaGreatDoor
open Go.RowKit
def eqR (a b : Ro) : Bool := decide (a.ep = b.ep) && (decide (a.nw = b.nw) && decide (a.l = b.l))
theorem two_boxes (w : World) (e nw e' nw' : Int) (ad ad' : Option Addr) (m m' c c' : Nat) (t : TypeId) :
    RC ((w.alloc (.cells #[.int .i64 e, .slice ad m c, .int .i64 nw] t)).alloc (.cells #[.int .i64 e', .slice ad' m' c', .int .i64 nw'] t)) w.heap.size e (.slice ad m c) nw ∧
    RC ((w.alloc (.cells #[.int .i64 e, .slice ad m c, .int .i64 nw] t)).alloc (.cells #[.int .i64 e', .slice ad' m' c', .int .i64 nw'] t)) (w.heap.size + 1) e' (.slice ad' m' c') nw' ∧
    Below w.heap.size w ((w.alloc (.cells #[.int .i64 e, .slice ad m c, .int .i64 nw] t)).alloc (.cells #[.int .i64 e', .slice ad' m' c', .int .i64 nw'] t)) := by
  refine ⟨(RC.new w e ad m c nw t).alloc _, ?_, ((Below.refl _ w).alloc (Nat.le_refl _) _).alloc (by simp) _⟩
  have := RC.new (w.alloc (.cells #[.int .i64 e, .slice ad m c, .int .i64 nw] t)) e' ad' m' c' nw' t
  simpa using this
set_option maxRecDepth 100000 in
set_option maxHeartbeats 4000000 in
theorem eq_p (e nw e' nw' : Int) (v v' : Value) (l l' : List Int) (w : World) (h : IsAt w v l) (h' : IsAt w v' l') (hn : l.length ≤ 1000) (hn' : l'.length ≤ 1000) :
    Calls Tryz.prog 82 #[.agg #[.int .i64 e, v, .int .i64 nw], .agg #[.int .i64 e', v', .int .i64 nw']] w fun r w' => r = .returned (.bool (eqR ⟨e, l, nw⟩ ⟨e', l', nw'⟩)) ∧ Below w.heap.size w w' := by
  obtain ⟨ad, cap, rfl, _⟩ := h.shape
  obtain ⟨ad', cap', rfl, _⟩ := h'.shape
  obtain ⟨h1, h2, hb⟩ := two_boxes w e nw e' nw' ad ad' l.length l'.length cap cap' 24
  have HB := Lib.hid hb
  have HV := Lib.hid (And.intro (h.below hb) (h'.below hb))
  obtain ⟨R, hR⟩ : ∃ R, eqR ⟨e, l, nw⟩ ⟨e', l', nw'⟩ = R := ⟨_, rfl⟩
  rw [hR]
  unfold eqR at hR
  dsimp only at hR
  have HE := Lib.hid (equal_p _ _ l l' _ HV.out.1 HV.out.2 (by omega) (by omega))
  clear h h' hb
  by_cases he : e = e'
  case neg =>
    have heb : (e == e') = false := by rw [beq_eq_false_iff_ne]; exact he
    rw [decide_eq_false he, Bool.false_and] at hR
    subst hR
    clear he
    go_enter Tryz.func82, Tryz.ntmps82
    go_wp2_with fail
    go_ret
    exact ⟨rfl, HB.out⟩
  subst he
  rw [decide_eq_true rfl, Bool.true_and] at hR
  by_cases he : nw = nw'
  case neg =>
    have heb : (nw == nw') = false := by rw [beq_eq_false_iff_ne]; exact he
    rw [decide_eq_false he, Bool.false_and] at hR
    subst hR
    clear he
    go_enter Tryz.func82, Tryz.ntmps82
    go_wp2_with fail
    go_ret
    exact ⟨rfl, HB.out⟩
  subst he
  rw [decide_eq_true rfl, Bool.true_and] at hR
  subst hR
  generalize decide (l = l') = R at *
  clear HV h1 h2
  go_enter Tryz.func82, Tryz.ntmps82
  go_wp2_with fail
  generalize ((w.alloc (.cells #[.int .i64 e, .slice ad l.length cap, .int .i64 nw] 24)).alloc (.cells #[.int .i64 e, .slice ad' l'.length cap', .int .i64 nw] 24)) = W at *
  refine HE.out.mono ?_
  rintro _ w2 ⟨rfl, hb2⟩
  have HB2 := Lib.hid (HB.out.trans (hb2.mono HB.out.size))
  clear hb2
  go_wp2_with fail
  go_ret
  exact ⟨rfl, HB2.out⟩
end Go.Proofs.YtaacdggjkfmehaaGreatDoor
namespace Go.Proofs.YtaacdggjkfmehaaGreatDoor
open Go.RowKit
theorem ix_here {l : List Int} {k : Nat} {x : Int} (hx : l[k]? = some x) (h : hasI (l.take k) x = false) : ixI l x = (k : Int) := by
  have hno : ∀ j y, j < k → l[j]? = some y → y ≠ x := by
    intro j y hj hy he
    unfold hasI at h
    have h2 : ixI (l.take k) x = -1 := by
      rcases ixI_cases (l.take k) x with ⟨h1, _⟩ | ⟨m, _, h1, _⟩
      · exact h1
      · rw [h1] at h
        have := of_decide_eq_false h
        omega
    rcases ixI_cases (l.take k) x with ⟨_, h3⟩ | ⟨m, _, h1, _⟩
    · unfold ixN at h3
      rw [List.findIdx?_eq_none_iff] at h3
      have hm : y ∈ l.take k := List.mem_of_getElem? (i := j) (by rw [List.getElem?_take, if_pos hj]; exact hy)
      have := h3 y hm
      rw [he] at this
      simp at this
    · omega
  unfold ixI
  rw [ixN_hit hx rfl hno]
end Go.Proofs.YtaacdggjkfmehaaGreatDoor
namespace Go.Proofs.YtaacdggjkfmehaaGreatDoor
open Go.RowKit
structure CB (W : World) (b : Nat) (r : Ro) (ad : Option Addr) (m cap : Nat) : Prop where
  c : RC W b r.ep (.slice ad m cap) r.nw
  v : IsAt W (.slice ad m cap) r.l
theorem CB.below {W W' : World} {b : Nat} {r : Ro} {ad : Option Addr} {m cap : Nat} (h : CB W b r ad m cap) (hb : Below W.heap.size W W') : CB W' b r ad m cap := ⟨h.c.below hb, h.v.below hb⟩
theorem cb_new (W : World) (r : Ro) (ad : Option Addr) (cap : Nat) (h : IsAt W (.slice ad r.l.length cap) r.l) : CB (W.alloc (.cells #[.int .i64 r.ep, .slice ad r.l.length cap, .int .i64 r.nw] 24)) W.heap.size r ad r.l.length cap :=
  ⟨RC.new W r.ep ad r.l.length cap r.nw 24, h.below ((Below.refl _ _).alloc (Nat.le_refl _) _)⟩
theorem isat_two (w : World) (x y : Int) : IsAt (w.alloc (.cells #[.int .i64 x, .int .i64 y] 3)) (.slice (some ⟨w.heap.size, 0, none⟩) 2 2) [x, y] :=
  .inr ⟨w.heap.size, 0, 2, rfl, by simp, by unfold maxLen; omega, by simp, fun j z hz => by
    match j, hz with
    | 0, hz => simp at hz; subst hz; go_simp
    | 1, hz => simp at hz; subst hz; go_simp
    | j + 2, hz => simp at hz⟩
set_option maxRecDepth 100000 in
set_option maxHeartbeats 8000000 in
theorem begun9_p (w : World) : Calls Tryz.prog 45 #[] w fun e w' => e = .returned (.bool true) ∧ Below w.heap.size w w' := by
  go_enter Tryz.func45, Tryz.ntmps45
  go_wp2_with fail
  have hb0 : Below w.heap.size w ((w.alloc (.cells #[.int .i64 2, .int .i64 4] 3)).alloc (.cells #[.int .i64 1, .slice (some ⟨w.heap.size, 0, none⟩) 2 2, .int .i64 0] 24)) := ((Below.refl _ w).alloc (Nat.le_refl _) _).alloc (by simp) _
  have hi0 : IsAt (w.alloc (.cells #[.int .i64 2, .int .i64 4] 3)) (.slice (some ⟨w.heap.size, 0, none⟩) 2 2) [2, 4] := isat_two w 2 4
  have HR1 : Hid (CB ((w.alloc (.cells #[.int .i64 2, .int .i64 4] 3)).alloc (.cells #[.int .i64 1, .slice (some ⟨w.heap.size, 0, none⟩) 2 2, .int .i64 0] 24)) (w.heap.size + 1) ⟨1, [2, 4], 0⟩ (some ⟨w.heap.size, 0, none⟩) 2 2) := Lib.hid (by
    have := cb_new (w.alloc (.cells #[.int .i64 2, .int .i64 4] 3)) ⟨1, [2, 4], 0⟩ (some ⟨w.heap.size, 0, none⟩) 2 hi0
    simpa using this)
  have HB0 := Lib.hid hb0
  clear hb0 hi0
  generalize (w.alloc (.cells #[.int .i64 2, .int .i64 4] 3)).alloc (.cells #[.int .i64 1, .slice (some ⟨w.heap.size, 0, none⟩) 2 2, .int .i64 0] 24) = W1 at *
  refine (add_p 1 0 1 _ [2, 4] W1 HR1.out.v (by simp)).mono ?_
  rw [show addR ⟨1, [2, 4], 0⟩ 1 = (⟨2, [2, 4, 1], 1⟩, true) by kernel_rfl]
  rintro _ w2 ⟨a2, c2, rfl, ho, hy⟩
  dsimp only at ho ⊢
  simp only [List.length_cons, List.length_nil, Nat.zero_add, Nat.reduceAdd] at ho ⊢
  have hb : Below W1.heap.size W1 (w2.alloc (.cells #[.int .i64 2, .slice a2 3 c2, .int .i64 1] 24)) := hy.alloc hy.size _
  replace HR1 := Lib.hid (HR1.out.below hb)
  have HR2 : Hid (CB (w2.alloc (.cells #[.int .i64 2, .slice a2 3 c2, .int .i64 1] 24)) w2.heap.size ⟨2, [2, 4, 1], 1⟩ a2 3 c2) := Lib.hid (cb_new w2 ⟨2, [2, 4, 1], 1⟩ a2 c2 ho.at)
  replace HB0 := Lib.hid (HB0.out.trans (hb.mono HB0.out.size))
  clear hy hb ho
  go_wp2_with fail
  generalize (w2.alloc (.cells #[.int .i64 2, .slice a2 3 c2, .int .i64 1] 24)) = W2 at *
  generalize w2.heap.size = B2 at *
  refine (drop_p 2 1 2 _ [2, 4, 1] W2 HR2.out.v (by simp)).mono ?_
  rw [show dropR ⟨2, [2, 4, 1], 1⟩ 2 = (⟨3, [4, 1], 1⟩, true) by kernel_rfl]
  rintro _ w3 ⟨a3, c3, rfl, ho, hy⟩
  dsimp only at ho ⊢
  simp only [List.length_cons, List.length_nil, Nat.zero_add, Nat.reduceAdd] at ho ⊢
  have hb : Below W2.heap.size W2 (w3.alloc (.cells #[.int .i64 3, .slice a3 2 c3, .int .i64 1] 24)) := hy.alloc hy.size _
  replace HR1 := Lib.hid (HR1.out.below hb)
  replace HR2 := Lib.hid (HR2.out.below hb)
  have HR3 : Hid (CB (w3.alloc (.cells #[.int .i64 3, .slice a3 2 c3, .int .i64 1] 24)) w3.heap.size ⟨3, [4, 1], 1⟩ a3 2 c3) := Lib.hid (cb_new w3 ⟨3, [4, 1], 1⟩ a3 c3 ho.at)
  replace HB0 := Lib.hid (HB0.out.trans (hb.mono HB0.out.size))
  clear hy hb ho
  obtain ⟨⟨p0, p1, p2⟩, _⟩ := HR2.out.c
  dsimp only at p0 p1 p2
  go_wp2_with fail
  clear p0 p1 p2
  generalize (w3.alloc (.cells #[.int .i64 3, .slice a3 2 c3, .int .i64 1] 24)) = W3 at *
  generalize w3.heap.size = B3 at *
  refine (add_p 2 1 5 _ [2, 4, 1] W3 HR2.out.v (by simp)).mono ?_
  rw [show addR ⟨2, [2, 4, 1], 1⟩ 5 = (Ro.zero, false) by kernel_rfl]
  rintro _ w4 ⟨a4, c4, rfl, ho, hy⟩
  dsimp only [Ro.zero] at ho ⊢
  simp only [List.length_nil] at ho ⊢
  have hb : Below W3.heap.size W3 (w4.alloc (.cells #[.int .i64 0, .slice a4 0 c4, .int .i64 0] 24)) := hy.alloc hy.size _
  replace HR1 := Lib.hid (HR1.out.below hb)
  replace HR2 := Lib.hid (HR2.out.below hb)
  replace HR3 := Lib.hid (HR3.out.below hb)
  have HR4 : Hid (CB (w4.alloc (.cells #[.int .i64 0, .slice a4 0 c4, .int .i64 0] 24)) w4.heap.size Ro.zero a4 0 c4) := Lib.hid (cb_new w4 Ro.zero a4 c4 ho.at)
  replace HB0 := Lib.hid (HB0.out.trans (hb.mono HB0.out.size))
  clear hy hb ho
  go_wp2_with fail
  clear HR4
  have hs4 : (w4.alloc (.cells #[.int .i64 0, .slice a4 0 c4, .int .i64 0] 24)).heap.size = w4.heap.size + 1 := by simp
  generalize (w4.alloc (.cells #[.int .i64 0, .slice a4 0 c4, .int .i64 0] 24)) = W4 at *
  have hi5 : IsAt (W4.alloc (.cells #[.int .i64 2, .int .i64 4] 3)) (.slice (some ⟨W4.heap.size, 0, none⟩) 2 2) [2, 4] := isat_two W4 2 4
  have hb5 : Below W4.heap.size W4 (W4.alloc (.cells #[.int .i64 2, .int .i64 4] 3)) := (Below.refl _ _).alloc (Nat.le_refl _) _
  replace HR1 := Lib.hid (HR1.out.below hb5)
  replace HR2 := Lib.hid (HR2.out.below hb5)
  replace HR3 := Lib.hid (HR3.out.below hb5)
  replace HB0 := Lib.hid (HB0.out.trans (hb5.mono HB0.out.size))
  clear hb5
  rw [hs4] at hi5
  clear hs4
  generalize w4.heap.size + 1 = S5 at *
  generalize W4.alloc (.cells #[.int .i64 2, .int .i64 4] 3) = W5 at *
  refine (drop_p 1 4 2 _ [2, 4] W5 hi5 (by simp)).mono ?_
  rw [show dropR ⟨1, [2, 4], 4⟩ 2 = (Ro.zero, false) by kernel_rfl]
  rintro _ w5 ⟨a5, c5, rfl, ho, hy⟩
  dsimp only [Ro.zero] at ho ⊢
  simp only [List.length_nil] at ho ⊢
  have hb : Below W5.heap.size W5 (w5.alloc (.cells #[.int .i64 0, .slice a5 0 c5, .int .i64 0] 24)) := hy.alloc hy.size _
  replace HR1 := Lib.hid (HR1.out.below hb)
  replace HR2 := Lib.hid (HR2.out.below hb)
  replace HR3 := Lib.hid (HR3.out.below hb)
  replace HB0 := Lib.hid (HB0.out.trans (hb.mono HB0.out.size))
  clear hy hb ho hi5
  obtain ⟨⟨p0, p1, p2⟩, _⟩ := HR1.out.c
  dsimp only at p0 p1 p2
  go_wp2_with fail
  clear p0 p1 p2
  generalize w5.alloc (.cells #[.int .i64 0, .slice a5 0 c5, .int .i64 0] 24) = V0 at *
  refine (romay_p 1 0 _ [2, 4] V0 HR1.out.v (by simp)).mono ?_
  rw [show mayR ⟨1, [2, 4], 0⟩ = true by kernel_rfl]
  rintro _ V1 ⟨rfl, hb⟩
  replace HR1 := Lib.hid (HR1.out.below hb)
  replace HR2 := Lib.hid (HR2.out.below hb)
  replace HR3 := Lib.hid (HR3.out.below hb)
  replace HB0 := Lib.hid (HB0.out.trans (hb.mono HB0.out.size))
  clear hb
  obtain ⟨⟨p0, p1, p2⟩, _⟩ := HR1.out.c
  dsimp only at p0 p1 p2
  go_wp2_with fail
  clear p0 p1 p2
  refine (romay_p 0 0 _ [] V1 (.inl ⟨rfl, rfl⟩) (by simp)).mono ?_
  rw [show mayR ⟨0, [], 0⟩ = false by kernel_rfl]
  rintro _ V2 ⟨rfl, hb⟩
  replace HR1 := Lib.hid (HR1.out.below hb)
  replace HR2 := Lib.hid (HR2.out.below hb)
  replace HR3 := Lib.hid (HR3.out.below hb)
  replace HB0 := Lib.hid (HB0.out.trans (hb.mono HB0.out.size))
  clear hb
  obtain ⟨⟨p0, p1, p2⟩, _⟩ := HR1.out.c
  dsimp only at p0 p1 p2
  go_wp2_with fail
  clear p0 p1 p2
  refine (has_p 1 0 4 _ [2, 4] V2 HR1.out.v (by simp)).mono ?_
  rw [show hasI [2, 4] 4 = true by kernel_rfl]
  rintro _ V3 ⟨rfl, hb⟩
  replace HR1 := Lib.hid (HR1.out.below hb)
  replace HR2 := Lib.hid (HR2.out.below hb)
  replace HR3 := Lib.hid (HR3.out.below hb)
  replace HB0 := Lib.hid (HB0.out.trans (hb.mono HB0.out.size))
  clear hb
  obtain ⟨⟨p0, p1, p2⟩, _⟩ := HR1.out.c
  dsimp only at p0 p1 p2
  go_wp2_with fail
  clear p0 p1 p2
  refine (has_p 1 0 1 _ [2, 4] V3 HR1.out.v (by simp)).mono ?_
  rw [show hasI [2, 4] 1 = false by kernel_rfl]
  rintro _ V4 ⟨rfl, hb⟩
  replace HR1 := Lib.hid (HR1.out.below hb)
  replace HR2 := Lib.hid (HR2.out.below hb)
  replace HR3 := Lib.hid (HR3.out.below hb)
  replace HB0 := Lib.hid (HB0.out.trans (hb.mono HB0.out.size))
  clear hb
  obtain ⟨⟨p0, p1, p2⟩, _⟩ := HR1.out.c
  dsimp only at p0 p1 p2
  go_wp2_with fail
  clear p0 p1 p2
  refine (head_p 1 0 _ [2, 4] V4 HR1.out.v).mono ?_
  rw [show getI [2, 4] 0 = 2 by kernel_rfl]
  rintro _ V5 ⟨rfl, hb⟩
  replace HR1 := Lib.hid (HR1.out.below hb)
  replace HR2 := Lib.hid (HR2.out.below hb)
  replace HR3 := Lib.hid (HR3.out.below hb)
  replace HB0 := Lib.hid (HB0.out.trans (hb.mono HB0.out.size))
  clear hb
  obtain ⟨⟨p0, p1, p2⟩, _⟩ := HR1.out.c
  dsimp only at p0 p1 p2
  go_wp2_with fail
  clear p0 p1 p2
  refine (tail_p 1 0 _ [2, 4] V5 HR1.out.v (by simp)).mono ?_
  rw [show tailI [2, 4] = 4 by kernel_rfl]
  rintro _ V6 ⟨rfl, hb⟩
  replace HR1 := Lib.hid (HR1.out.below hb)
  replace HR2 := Lib.hid (HR2.out.below hb)
  replace HR3 := Lib.hid (HR3.out.below hb)
  replace HB0 := Lib.hid (HB0.out.trans (hb.mono HB0.out.size))
  clear hb
  obtain ⟨⟨p0, p1, p2⟩, _⟩ := HR1.out.c
  dsimp only at p0 p1 p2
  go_wp2_with fail
  clear p0 p1 p2
  refine (next_p 1 0 2 _ [2, 4] V6 HR1.out.v (by simp)).mono ?_
  rw [show nextI [2, 4] 2 = 4 by kernel_rfl]
  rintro _ V7 ⟨rfl, hb⟩
  replace HR1 := Lib.hid (HR1.out.below hb)
  replace HR2 := Lib.hid (HR2.out.below hb)
  replace HR3 := Lib.hid (HR3.out.below hb)
  replace HB0 := Lib.hid (HB0.out.trans (hb.mono HB0.out.size))
  clear hb
  obtain ⟨⟨p0, p1, p2⟩, _⟩ := HR1.out.c
  dsimp only at p0 p1 p2
  go_wp2_with fail
  clear p0 p1 p2
  refine (ahead_p 1 0 2 _ [2, 4] V7 HR1.out.v (by simp)).mono ?_
  rw [show aheadI [2, 4] 2 = 0 by kernel_rfl]
  rintro _ V8 ⟨rfl, hb⟩
  replace HR1 := Lib.hid (HR1.out.below hb)
  replace HR2 := Lib.hid (HR2.out.below hb)
  replace HR3 := Lib.hid (HR3.out.below hb)
  replace HB0 := Lib.hid (HB0.out.trans (hb.mono HB0.out.size))
  clear hb
  obtain ⟨⟨p0, p1, p2⟩, _⟩ := HR2.out.c
  obtain ⟨⟨q0, q1, q2⟩, _⟩ := HR3.out.c
  dsimp only at p0 p1 p2 q0 q1 q2
  go_wp2_with fail
  go_ret
  exact ⟨rfl, HB0.out⟩
end Go.Proofs.YtaacdggjkfmehaaGreatDoor
