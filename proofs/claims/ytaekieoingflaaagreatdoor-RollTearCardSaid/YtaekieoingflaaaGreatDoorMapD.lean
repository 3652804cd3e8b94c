/-
  A map from names to blocks, as it is read: a list of names and blocks, whatever its order.
-/
import Derived.Maps.Ext
import Derived.Sort.KeysCollected
namespace Go.Proofs.MapD
open Go.Maps Go.ChangeMaps Go.WideShapes

abbrev DU := DataW Unit

/-- How a name reads as a key. -/
def kl (n : ByteArray) : Lit := .string n.data.toList

theorem kl_inj {a b : ByteArray} (h : kl a = kl b) : a = b := by
  unfold kl at h
  injection h with h
  cases a; cases b
  simp at h
  rw [h]

theorem kl_key (n : ByteArray) : WideAt.IsKeyLit (kl n) := trivial

/-- How a pointer to the first cell of a block reads: as the block's number; nil: as false. -/
def ptrElem (v : Value) : Option (DU × List MemPlace) :=
  match v with
  | .pointer (some ⟨b, 0, none⟩) => some (.lit (.int .i64 b), [])
  | .pointer none => some (.lit (.bool false), [])
  | _ => none

theorem ptr_mk (b : Nat) : ptrElem (.pointer (some ⟨b, 0, none⟩)) = some (.lit (.int .i64 b), []) := rfl
theorem ptr_nil : ptrElem (.pointer none) = some (.lit (.bool false), []) := rfl

theorem ptr_inv {v : Value} {ps : List MemPlace} {b : Nat} (h : ptrElem v = some (.lit (.int .i64 b), ps)) : v = .pointer (some ⟨b, 0, none⟩) := by
  unfold ptrElem at h
  split at h
  · rename_i b'
    have e : b' = b := by
      have := congrArg (fun x => x.map Prod.fst) h
      simp at this
      omega
    rw [e]
  · simp at h
  · cases h

theorem ptr_nil_inv {v : Value} {ps : List MemPlace} (h : ptrElem v = some (.lit (.bool false), ps)) : v = .pointer none := by
  unfold ptrElem at h
  split at h
  · simp at h
  · rfl
  · cases h

theorem ptr_form {v : Value} {z : DU × List MemPlace} (h : ptrElem v = some z) : v = .pointer none ∨ ∃ b : Nat, v = .pointer (some ⟨b, 0, none⟩) ∧ z.1 = .lit (.int .i64 b) := by
  unfold ptrElem at h
  split at h
  · cases h; exact .inr ⟨_, rfl, rfl⟩
  · exact .inl rfl
  · cases h

abbrev NB := ByteArray × Nat

def ent (e : NB) : Lit × DU := (kl e.1, .lit (.int .i64 e.2))

/-- The datum of such a list. -/
def D (L : List NB) : DU := .map ((L.map ent).foldr DataW.insert [])

abbrev names (L : List NB) : List ByteArray := L.map Prod.fst

def Kd (l : Lit) : Prop := ∃ s, l = .string s

theorem one : OneKind Kd := ⟨fun ⟨_, h⟩ => by rw [h]; trivial, fun ha hb hne => before_total ha hb hne⟩

theorem keys_ent (L : List NB) : Keys Kd (L.map ent) := by
  intro p hp
  obtain ⟨e, _, rfl⟩ := List.mem_map.1 hp
  exact ⟨_, rfl⟩

theorem apart_ent {L : List NB} (h : (names L).Nodup) : (L.map ent).Pairwise (fun p q => p.1 ≠ q.1) := by
  unfold List.Nodup at h
  rw [List.pairwise_map] at h ⊢
  exact h.imp (fun {a b} hab e => hab (kl_inj e))

theorem D_nil : D [] = .map [] := rfl

theorem D_size (L : List NB) : Maps.size (D L) = L.length := by
  show ((L.map ent).foldr DataW.insert []).length = _
  rw [(sorted_perm _).length_eq, List.length_map]

theorem D_perm {L L' : List NB} (h : (names L).Nodup) (hp : L.Perm L') : D L = D L' := by
  unfold D
  have h' : (names L').Nodup := (hp.map Prod.fst).nodup_iff.1 h
  have := eq_of_perm_sorted (((sorted_perm (L.map ent)).trans (hp.map ent)).trans (sorted_perm (L'.map ent)).symm) (sorted_sorted one _ (keys_ent L) (apart_ent h)) (sorted_sorted one _ (keys_ent L') (apart_ent h'))
  rw [this]

theorem notKey_ent (n : ByteArray) (e : NB) : notKey (kl n) (ent e) = decide (e.1 ≠ n) := by
  rw [Bool.eq_iff_iff, notKey_iff (kl_key n), decide_eq_true_iff]
  exact ⟨fun h e1 => h (by rw [← e1]; rfl), fun h e1 => h (kl_inj e1)⟩

theorem filter_ent (n : ByteArray) (L : List NB) : (L.map ent).filter (notKey (kl n)) = (L.filter fun e => decide (e.1 ≠ n)).map ent := by
  rw [List.filter_map]
  congr 1
  apply List.filter_congr
  intro e _
  exact notKey_ent n e

theorem D_del {L : List NB} (h : (names L).Nodup) (n : ByteArray) : (D L).del (kl n) = D (L.filter fun e => decide (e.1 ≠ n)) := by
  have := sorted_del (k := kl n) (E' := (L.filter fun e => decide (e.1 ≠ n)).map ent) one (keys_ent L) (apart_ent h) (by rw [filter_ent])
  unfold D
  rw [this]
  rfl

theorem D_put {L : List NB} (h : (names L).Nodup) (n : ByteArray) (b : Nat) : (D L).put (kl n) (.lit (.int .i64 b)) = D ((n, b) :: L.filter fun e => decide (e.1 ≠ n)) := by
  have := sorted_put (k := kl n) (d := (.lit (.int .i64 b) : DU)) (E' := ((n, b) :: L.filter fun e => decide (e.1 ≠ n)).map ent) one ⟨_, rfl⟩ (keys_ent L) (apart_ent h) (by rw [List.map_cons, filter_ent]; exact .refl _)
  unfold D
  rw [this]
  rfl

theorem D_at {L : List NB} (h : (names L).Nodup) {e : NB} (he : e ∈ L) (z : DU) : (D L).atKey (kl e.1) z = .lit (.int .i64 e.2) := by
  have hap : ((L.map ent).foldr DataW.insert []).Pairwise (fun p q => p.1 ≠ q.1) := ((sorted_perm (L.map ent)).pairwise_iff (fun {_ _} hne => Ne.symm hne)).2 (apart_ent h)
  exact WideAt.atKey_mem z (kl_key _) hap ((sorted_perm _).mem_iff.2 (List.mem_map.2 ⟨e, he, rfl⟩))

theorem D_has (L : List NB) (n : ByteArray) : Maps.has (D L) (kl n) = L.any (fun e => decide (e.1 = n)) := by
  rw [Bool.eq_iff_iff, List.any_eq_true]
  constructor
  · intro h
    obtain ⟨p, hp, hs⟩ := List.any_eq_true.1 h
    obtain ⟨e, he, rfl⟩ := List.mem_map.1 ((sorted_perm _).mem_iff.1 hp)
    exact ⟨e, he, decide_eq_true (kl_inj (WideAt.sameKey_eq hs))⟩
  · rintro ⟨e, he, h⟩
    obtain rfl := of_decide_eq_true h
    exact List.any_eq_true.2 ⟨ent e, (sorted_perm _).mem_iff.2 (List.mem_map.2 ⟨e, he, rfl⟩), WideAt.sameKey_self (kl_key _)⟩

theorem D_strKeys (L : List NB) : (Go.strKeys (D L)).Perm (L.map fun e => e.1.data.toList) := by
  have := (sorted_perm (L.map ent)).map (fun p => Go.strOf p.1)
  rw [List.map_map] at this
  exact this

/-- Whatever key the map has is a name's. -/
theorem D_key {L : List NB} {l : Lit} (h : Maps.has (D L) l = true) : ∃ e ∈ L, l = kl e.1 := by
  obtain ⟨p, hp, hs⟩ := List.any_eq_true.1 h
  obtain ⟨e, he, rfl⟩ := List.mem_map.1 ((sorted_perm _).mem_iff.1 hp)
  exact ⟨e, he, (WideAt.sameKey_eq hs).symm⟩

#print axioms D_has
end Go.Proofs.MapD
