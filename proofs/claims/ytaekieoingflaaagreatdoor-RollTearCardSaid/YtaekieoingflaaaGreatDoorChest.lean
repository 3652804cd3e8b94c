/-
  A chest of rolls, plainly: what P3 says of it.
-/
import Derived.Maps.Ext
namespace Go.Proofs.Chest

/-- What stands on a roll, how much of it is pressed, whether it stays. -/
structure Rl where
  t : ByteArray
  p : Nat
  s : Bool

abbrev Rolls := List (ByteArray × Rl)

structure St where
  room : Nat
  l : Rolls

def okB (c : UInt8) : Bool := decide (65 ≤ c.toNat) && decide (c.toNat ≤ 90)

def okName (n : ByteArray) : Bool := decide (1 ≤ n.size) && decide (n.size ≤ 10) && n.data.toList.all okB

def get : Rolls → ByteArray → Option Rl
  | [], _ => none
  | e :: r, n => if e.1 = n then some e.2 else get r n

def set (l : Rolls) (n : ByteArray) (x : Rl) : Rolls := l.map fun e => if e.1 = n then (n, x) else e

def del (l : Rolls) (n : ByteArray) : Rolls := l.filter fun e => decide (e.1 ≠ n)

def total (l : Rolls) : Nat := (l.map fun e => e.2.t.size).sum

def write (st : St) (n s : ByteArray) : Int × St :=
  if okName n = false then (1, st) else if st.room < s.size then (5, st) else
    match get st.l n with
    | none => (0, ⟨st.room - s.size, (n, ⟨s, 0, false⟩) :: st.l⟩)
    | some r => (0, ⟨st.room - s.size, set st.l n ⟨r.t ++ s, r.p, r.s⟩⟩)

def press (st : St) (n : ByteArray) : Int × St :=
  match get st.l n with
  | none => (6, st)
  | some r => (0, ⟨st.room, set st.l n ⟨r.t, r.t.size, true⟩⟩)

def cut (st : St) (n : ByteArray) (k : Int) : Int × St :=
  match get st.l n with
  | none => (6, st)
  | some r => if k < 0 ∨ (r.t.size : Int) < k then (4, st) else (0, ⟨st.room + (r.t.size - k.toNat), set st.l n ⟨r.t.extract 0 k.toNat, min r.p k.toNat, true⟩⟩)

def call (st : St) (f t : ByteArray) : Int × St :=
  if okName t = false then (1, st) else
    match get st.l f with
    | none => (6, st)
    | some r => if f = t then (0, st) else
        (0, ⟨st.room + (match get st.l t with | none => 0 | some o => o.t.size), (t, ⟨r.t, r.p, true⟩) :: del (del st.l f) t⟩)

def stays (r : Rl) (n : Int) : Nat := r.p + n.toNat % (r.t.size - r.p + 1)

def torn (r : Rl) (n : Int) : Option Rl := if 0 < stays r n ∨ r.s = true then some ⟨r.t.extract 0 (stays r n), stays r n, true⟩ else none

def tear (st : St) (n : Int) : St :=
  ⟨st.room + (st.l.map fun e => e.2.t.size - stays e.2 n).sum, st.l.filterMap fun e => (torn e.2 n).map fun r => (e.1, r)⟩

/-- What holds of a chest. -/
structure Wf (st : St) : Prop where
  apart : (st.l.map Prod.fst).Nodup
  pressed : ∀ e ∈ st.l, e.2.p ≤ e.2.t.size
  names : ∀ e ∈ st.l, okName e.1 = true
  room : st.room + total st.l ≤ 1048576

theorem get_none {l : Rolls} {n : ByteArray} : get l n = none ↔ ∀ e ∈ l, e.1 ≠ n := by
  induction l with
  | nil => simp [get]
  | cons e r ih =>
    unfold get
    by_cases h : e.1 = n
    · simp [h]
    · simp [h, ih]

theorem get_mem {l : Rolls} {n : ByteArray} {x : Rl} (h : get l n = some x) : (n, x) ∈ l := by
  induction l with
  | nil => simp [get] at h
  | cons e r ih =>
    unfold get at h
    by_cases h1 : e.1 = n
    · rw [if_pos h1] at h
      obtain rfl := Option.some.inj h
      subst h1
      simp
    · rw [if_neg h1] at h
      simp [ih h]

theorem get_of_mem {l : Rolls} (ha : (l.map Prod.fst).Nodup) {n : ByteArray} {x : Rl} (h : (n, x) ∈ l) : get l n = some x := by
  induction l with
  | nil => simp at h
  | cons e r ih =>
    rw [List.map_cons, List.nodup_cons] at ha
    unfold get
    rcases List.mem_cons.1 h with rfl | h
    · simp
    · have : e.1 ≠ n := by
        rintro rfl
        exact ha.1 (List.mem_map.2 ⟨_, h, rfl⟩)
      rw [if_neg this]
      exact ih ha.2 h

theorem names_set (l : Rolls) (n : ByteArray) (x : Rl) : (set l n x).map Prod.fst = l.map Prod.fst := by
  unfold set
  rw [List.map_map]
  apply List.map_congr_left
  intro e _
  simp only [Function.comp]
  split
  · rename_i h; exact h.symm
  · rfl

theorem mem_set {l : Rolls} {n : ByteArray} {x : Rl} {e : ByteArray × Rl} (h : e ∈ set l n x) : (e = (n, x) ∧ ∃ y, (n, y) ∈ l) ∨ (e ∈ l ∧ e.1 ≠ n) := by
  obtain ⟨a, ha, rfl⟩ := List.mem_map.1 h
  by_cases h1 : a.1 = n
  · left
    rw [if_pos h1]
    exact ⟨rfl, a.2, by rw [← h1]; exact ha⟩
  · right
    rw [if_neg h1]
    exact ⟨ha, h1⟩

theorem total_set {l : Rolls} (ha : (l.map Prod.fst).Nodup) {n : ByteArray} {x y : Rl} (h : get l n = some y) : total (set l n x) + y.t.size = total l + x.t.size := by
  induction l with
  | nil => simp [get] at h
  | cons e r ih =>
    rw [List.map_cons, List.nodup_cons] at ha
    unfold get at h
    unfold total set
    by_cases h1 : e.1 = n
    · rw [if_pos h1] at h
      obtain rfl := Option.some.inj h
      have : r.map (fun e => if e.1 = n then (n, x) else e) = r := by
        conv => rhs; rw [← List.map_id r]
        apply List.map_congr_left
        intro a ha'
        have : a.1 ≠ n := by
          intro h2
          exact ha.1 (List.mem_map.2 ⟨a, ha', by rw [h2, h1]⟩)
        simp [this]
      simp only [List.map_cons, List.sum_cons, if_pos h1, this]
      omega
    · rw [if_neg h1] at h
      have := ih ha.2 h
      unfold total set at this
      simp only [List.map_cons, List.sum_cons, if_neg h1]
      omega

theorem total_del {l : Rolls} (ha : (l.map Prod.fst).Nodup) {n : ByteArray} : total (del l n) + (match get l n with | none => 0 | some y => y.t.size) = total l := by
  induction l with
  | nil => simp [get, total, del]
  | cons e r ih =>
    rw [List.map_cons, List.nodup_cons] at ha
    unfold get
    by_cases h1 : e.1 = n
    · have : del r n = r := by
        apply List.filter_eq_self.2
        intro a ha'
        simp only [decide_eq_true_eq]
        intro h2
        exact ha.1 (List.mem_map.2 ⟨a, ha', by rw [h2, h1]⟩)
      simp only [if_pos h1]
      have e1 : del (e :: r) n = r := by
        have : del (e :: r) n = del r n := by simp [del, h1]
        rw [this]; assumption
      rw [e1]
      simp [total]
      omega
    · have := ih ha.2
      have e1 : del (e :: r) n = e :: del r n := by simp [del, h1]
      rw [if_neg h1, e1]
      unfold total at this ⊢
      simp only [List.map_cons, List.sum_cons]
      omega

theorem total_le {l : Rolls} {e : ByteArray × Rl} (h : e ∈ l) : e.2.t.size ≤ total l := by
  induction l with
  | nil => simp at h
  | cons a r ih =>
    unfold total at ih ⊢
    simp only [List.map_cons, List.sum_cons]
    rcases List.mem_cons.1 h with rfl | h
    · omega
    · have := ih h; omega

theorem names_del (l : Rolls) (n : ByteArray) : (del l n).map Prod.fst = (l.map Prod.fst).filter fun m => decide (m ≠ n) := by
  unfold del
  rw [List.filter_map]
  rfl

theorem nodup_del {l : Rolls} (n : ByteArray) (h : (l.map Prod.fst).Nodup) : ((del l n).map Prod.fst).Nodup := by
  rw [names_del]
  exact h.filter _

theorem not_mem_del (l : Rolls) (n : ByteArray) : n ∉ (del l n).map Prod.fst := by
  rw [names_del]
  simp

theorem get_del_other {l : Rolls} {n m : ByteArray} (h : m ≠ n) : get (del l n) m = get l m := by
  induction l with
  | nil => rfl
  | cons e r ih =>
    by_cases h1 : e.1 = n
    · have e1 : del (e :: r) n = del r n := by simp [del, h1]
      rw [e1, ih]
      conv => rhs; unfold get
      rw [if_neg (by rw [h1]; exact fun h2 => h h2.symm)]
    · have e1 : del (e :: r) n = e :: del r n := by simp [del, h1]
      rw [e1]
      unfold get
      rw [ih]

theorem get_del_same (l : Rolls) (n : ByteArray) : get (del l n) n = none := by
  rw [get_none]
  intro e he
  have := (List.mem_filter.1 he).2
  simpa using this

theorem stays_le (r : Rl) (n : Int) (h : r.p ≤ r.t.size) : r.p ≤ stays r n ∧ stays r n ≤ r.t.size := by
  unfold stays
  have := Nat.mod_lt n.toNat (show 0 < r.t.size - r.p + 1 by omega)
  omega

theorem wf_new (room : Nat) (h : room ≤ 1048576) : Wf ⟨room, []⟩ := ⟨by simp, by simp, by simp, by simpa [total] using h⟩

theorem wf_write {st : St} (h : Wf st) (n s : ByteArray) : Wf (write st n s).2 := by
  unfold write
  split
  · exact h
  · rename_i hn
    split
    · exact h
    · rename_i hr
      split
      · rename_i hg
        refine ⟨?_, ?_, ?_, ?_⟩
        · rw [List.map_cons, List.nodup_cons]
          exact ⟨fun hm => by
            obtain ⟨e, he, h1⟩ := List.mem_map.1 hm
            exact get_none.1 hg e he h1, h.apart⟩
        · intro e he
          rcases List.mem_cons.1 he with rfl | he
          · exact Nat.zero_le _
          · exact h.pressed e he
        · intro e he
          rcases List.mem_cons.1 he with rfl | he
          · simpa using hn
          · exact h.names e he
        · have := h.room
          unfold total at this ⊢
          simp only [List.map_cons, List.sum_cons]
          omega
      · rename_i r hg
        have hm := get_mem hg
        refine ⟨?_, ?_, ?_, ?_⟩
        · rw [names_set]; exact h.apart
        · intro e he
          rcases mem_set he with ⟨rfl, _⟩ | ⟨he, _⟩
          · have := h.pressed _ hm
            simp only [ByteArray.size_append] at *
            omega
          · exact h.pressed e he
        · intro e he
          rcases mem_set he with ⟨rfl, y, hy⟩ | ⟨he, _⟩
          · have := h.names (n, y) hy; exact this
          · exact h.names e he
        · have := h.room
          have h2 := total_set (x := ⟨r.t ++ s, r.p, r.s⟩) h.apart hg
          simp only [ByteArray.size_append] at *
          omega

theorem wf_press {st : St} (h : Wf st) (n : ByteArray) : Wf (press st n).2 := by
  unfold press
  split
  · exact h
  · rename_i r hg
    refine ⟨?_, ?_, ?_, ?_⟩
    · rw [names_set]; exact h.apart
    · intro e he
      rcases mem_set he with ⟨rfl, _⟩ | ⟨he, _⟩
      · exact Nat.le_refl _
      · exact h.pressed e he
    · intro e he
      rcases mem_set he with ⟨rfl, y, hy⟩ | ⟨he, _⟩
      · have := h.names (n, y) hy; exact this
      · exact h.names e he
    · have := h.room
      have h2 := total_set (x := ⟨r.t, r.t.size, true⟩) h.apart hg
      simp only at *
      omega

theorem wf_cut {st : St} (h : Wf st) (n : ByteArray) (k : Int) : Wf (cut st n k).2 := by
  unfold cut
  split
  · exact h
  · rename_i r hg
    split
    · exact h
    · rename_i hk
      have hz : (r.t.extract 0 k.toNat).size = k.toNat := by rw [ByteArray.size_extract]; omega
      refine ⟨?_, ?_, ?_, ?_⟩
      · rw [names_set]; exact h.apart
      · intro e he
        rcases mem_set he with ⟨rfl, _⟩ | ⟨he, _⟩
        · simp only [hz]; omega
        · exact h.pressed e he
      · intro e he
        rcases mem_set he with ⟨rfl, y, hy⟩ | ⟨he, _⟩
        · have := h.names (n, y) hy; exact this
        · exact h.names e he
      · have := h.room
        have h2 := total_set (x := ⟨r.t.extract 0 k.toNat, min r.p k.toNat, true⟩) h.apart hg
        simp only [hz] at *
        omega

theorem wf_call {st : St} (h : Wf st) (f t : ByteArray) : Wf (call st f t).2 := by
  unfold call
  split
  · exact h
  · rename_i ht
    split
    · exact h
    · rename_i r hg
      split
      · exact h
      · rename_i hne
        refine ⟨?_, ?_, ?_, ?_⟩
        · rw [List.map_cons, List.nodup_cons]
          exact ⟨not_mem_del _ _, nodup_del t (nodup_del f h.apart)⟩
        · intro e he
          rcases List.mem_cons.1 he with rfl | he
          · have := h.pressed (f, r) (get_mem hg); exact this
          · exact h.pressed e (List.mem_filter.1 (List.mem_filter.1 he).1).1
        · intro e he
          rcases List.mem_cons.1 he with rfl | he
          · simpa using ht
          · exact h.names e (List.mem_filter.1 (List.mem_filter.1 he).1).1
        · have h0 := h.room
          have h1 := total_del (n := f) h.apart
          have h2 := total_del (n := t) (nodup_del f h.apart)
          rw [get_del_other (fun e => hne e.symm)] at h2
          rw [hg] at h1
          have e1 : total ((t, ⟨r.t, r.p, true⟩) :: del (del st.l f) t) = r.t.size + total (del (del st.l f) t) := by simp [total]
          rw [e1]
          simp only at *
          omega

theorem names_tear (l : Rolls) (n : Int) : ((l.filterMap fun e => (torn e.2 n).map fun r => (e.1, r)).map Prod.fst).Sublist (l.map Prod.fst) := by
  induction l with
  | nil => exact .slnil
  | cons e r ih =>
    rw [List.filterMap_cons]
    cases torn e.2 n with
    | none => exact ih.cons _
    | some x => exact ih.cons_cons _

theorem total_tear (l : Rolls) (n : Int) (h : ∀ e ∈ l, e.2.p ≤ e.2.t.size) : total (l.filterMap fun e => (torn e.2 n).map fun r => (e.1, r)) + (l.map fun e => e.2.t.size - stays e.2 n).sum = total l := by
  induction l with
  | nil => rfl
  | cons e r ih =>
    have := ih (fun e he => h e (by simp [he]))
    have hs := stays_le e.2 n (h e (by simp))
    rw [List.filterMap_cons, List.map_cons, List.sum_cons]
    unfold torn at this ⊢
    unfold total at this ⊢
    by_cases hc : 0 < stays e.2 n ∨ e.2.s = true
    · rw [if_pos hc]
      simp only [Option.map, List.map_cons, List.sum_cons, ByteArray.size_extract] at *
      omega
    · rw [if_neg hc]
      have h0 : stays e.2 n = 0 := by omega
      simp only [Option.map, List.map_cons, List.sum_cons, h0] at *
      omega

theorem wf_tear {st : St} (h : Wf st) (n : Int) : Wf (tear st n) := by
  refine ⟨(names_tear st.l n).nodup h.apart, ?_, ?_, ?_⟩
  · intro e he
    obtain ⟨a, ha, h1⟩ := List.mem_filterMap.1 he
    unfold torn at h1
    have hs := stays_le a.2 n (h.pressed a ha)
    split at h1
    · simp only [Option.map, Option.some.injEq] at h1
      subst h1
      simp only [ByteArray.size_extract]
      omega
    · cases h1
  · intro e he
    obtain ⟨a, ha, h1⟩ := List.mem_filterMap.1 he
    cases h2 : torn a.2 n with
    | none => rw [h2] at h1; cases h1
    | some x =>
      rw [h2] at h1
      simp only [Option.map, Option.some.injEq] at h1
      subst h1
      exact h.names a ha
  · have h0 := h.room
    have h1 := total_tear st.l n h.pressed
    unfold tear
    simp only
    omega

theorem len_set (l : Rolls) (n : ByteArray) (x : Rl) : (set l n x).length = l.length := by simp [set]

theorem len_write (st : St) (n s : ByteArray) : (write st n s).2.l.length ≤ st.l.length + 1 := by
  unfold write
  split
  · simp
  · split
    · simp
    · split
      · simp
      · simp [len_set]

theorem len_press (st : St) (n : ByteArray) : (press st n).2.l.length = st.l.length := by
  unfold press; split <;> simp [len_set]

theorem len_cut (st : St) (n : ByteArray) (k : Int) : (cut st n k).2.l.length = st.l.length := by
  unfold cut
  split
  · rfl
  · split <;> simp [len_set]

theorem len_call (st : St) (f t : ByteArray) : (call st f t).2.l.length ≤ st.l.length + 1 := by
  unfold call
  split
  · simp
  · split
    · simp
    · split
      · simp
      · simp only [List.length_cons]
        have h1 := List.length_filter_le (fun e : ByteArray × Rl => decide (e.1 ≠ f)) st.l
        have h2 := List.length_filter_le (fun e : ByteArray × Rl => decide (e.1 ≠ t)) (del st.l f)
        unfold del at *
        omega

theorem len_tear (st : St) (n : Int) : (tear st n).l.length ≤ st.l.length := by
  unfold tear
  exact List.length_filterMap_le _ _

#print axioms wf_tear
end Go.Proofs.Chest
