/-
  Rolls in the order of their names, plainly; the reference's Write and Call.
-/
import Derived.Test.YtaekieoingflaaaGreatDoorRfA
import Derived.Sort.Walk0
import Derived.Test.YtaekieoingflaaaGreatDoorRoll10
namespace Go.Proofs.YtaekieoingflaaaGreatDoor
open Go.Proofs.Chest

theorem blt_iff (a b : ByteArray) : blt a b = true ↔ a.data.toList < b.data.toList := by
  unfold blt
  rw [bytesLess_eq, ByteArray.toList_eq, ByteArray.toList_eq, decide_eq_true_iff]

theorem blt_irrefl (a : ByteArray) : blt a a = false := by
  cases h : blt a a with
  | false => rfl
  | true => exact absurd ((blt_iff a a).1 h) (List.lt_irrefl _)

theorem blt_trans {a b c : ByteArray} (h : blt a b = true) (k : blt b c = true) : blt a c = true :=
  (blt_iff a c).2 (List.lt_trans ((blt_iff a b).1 h) ((blt_iff b c).1 k))

theorem blt_total {a b : ByteArray} (h : blt a b = false) (k : a ≠ b) : blt b a = true := by
  cases hb : blt b a with
  | true => rfl
  | false =>
    exfalso
    apply k
    have h1 : ¬ a.data.toList < b.data.toList := fun x => by rw [(blt_iff a b).2 x] at h; cases h
    have h2 : ¬ b.data.toList < a.data.toList := fun x => by rw [(blt_iff b a).2 x] at hb; cases hb
    have h3 : a.data.toList = b.data.toList := List.le_antisymm (List.not_lt.1 h2) (List.not_lt.1 h1)
    rcases a with ⟨⟨a⟩⟩
    rcases b with ⟨⟨b⟩⟩
    simp only at h3
    rw [h3]

/-- In the order of the names, each once. -/
def Srt (l : Rolls) : Prop := l.Pairwise (fun a b => blt a.1 b.1 = true)

theorem Srt.tail {e : ByteArray × Rl} {r : Rolls} (h : Srt (e :: r)) : Srt r := (List.pairwise_cons.1 h).2

theorem Srt.ahead {l : Rolls} (h : Srt l) (n : ByteArray) : (∀ e ∈ l.take (place l n), blt e.1 n = true) ∧ (∀ e ∈ l.drop (place l n), blt e.1 n = false) := by
  induction l with
  | nil => simp
  | cons e r ih =>
    have ih := ih h.tail
    rw [place_cons]
    cases hb : blt e.1 n with
    | true =>
      rw [if_pos rfl, List.take_succ_cons, List.drop_succ_cons]
      refine ⟨fun x hx => ?_, ih.2⟩
      rcases List.mem_cons.1 hx with rfl | hx
      · exact hb
      · exact ih.1 x hx
    | false =>
      rw [if_neg (by decide), List.take_zero, List.drop_zero]
      refine ⟨by simp, fun x hx => ?_⟩
      rcases List.mem_cons.1 hx with rfl | hx
      · exact hb
      · cases hx2 : blt x.1 n with
        | false => rfl
        | true =>
          have h1 := (List.pairwise_cons.1 h).1 x hx
          rw [blt_trans h1 hx2] at hb
          cases hb

theorem Srt.isat {l : Rolls} (h : Srt l) (n : ByteArray) : isAt l n = (Chest.get l n).isSome ∧ ∀ x, Chest.get l n = some x → l[place l n]? = some (n, x) := by
  induction l with
  | nil => exact ⟨rfl, fun x hx => by simp [Chest.get] at hx⟩
  | cons e r ih =>
    have ih := ih h.tail
    unfold isAt Chest.get
    rw [place_cons]
    cases hb : blt e.1 n with
    | true =>
      have hne : ¬ e.1 = n := fun hh => by rw [hh, blt_irrefl] at hb; cases hb
      rw [if_pos rfl, if_neg hne]
      simp only [List.getElem?_cons_succ]
      exact ih
    | false =>
      rw [if_neg (by decide)]
      simp only [List.getElem?_cons_zero]
      by_cases he : e.1 = n
      · rw [if_pos he]
        refine ⟨by simp [he], fun x hx => ?_⟩
        obtain rfl := Option.some.inj hx
        rw [← he]
      · rw [if_neg he]
        have hn : blt n e.1 = true := blt_total hb he
        have hnone : Chest.get r n = none := by
          refine get_none.2 fun x hx hxn => ?_
          have h1 := (List.pairwise_cons.1 h).1 x hx
          rw [hxn] at h1
          have := blt_trans hn h1
          rw [blt_irrefl] at this
          cases this
        rw [hnone]
        exact ⟨by simp [he], fun x hx => by cases hx⟩

/-- A roll that was not there is laid at its place. -/
theorem Srt.put {l : Rolls} (h : Srt l) {n : ByteArray} (hn : Chest.get l n = none) (x : Rl) : Srt (l.take (place l n) ++ (n, x) :: l.drop (place l n)) ∧ (l.take (place l n) ++ (n, x) :: l.drop (place l n)).Perm ((n, x) :: l) := by
  obtain ⟨h1, h2⟩ := h.ahead n
  refine ⟨?_, ?_⟩
  · have hs : Srt (l.take (place l n) ++ l.drop (place l n)) := by rw [List.take_append_drop]; exact h
    have hs := List.pairwise_append.1 hs
    refine List.pairwise_append.2 ⟨hs.1, List.pairwise_cons.2 ⟨fun e he => ?_, hs.2.1⟩, fun a ha b hb => ?_⟩
    · refine blt_total (h2 e he) fun e1 => ?_
      exact absurd e1 (get_none.1 hn e (List.mem_of_mem_drop he))
    · rcases List.mem_cons.1 hb with rfl | hb
      · exact h1 a ha
      · exact hs.2.2 a ha b hb
  · refine List.perm_middle.trans ?_
    rw [List.take_append_drop]

/-- A roll that was there is taken out. -/
theorem Srt.out {l : Rolls} (h : Srt l) (k : Nat) : Srt (l.take k ++ l.drop (k + 1)) := by
  refine List.Pairwise.sublist ?_ h
  have h1 : List.Sublist (l.take k ++ l.drop (k + 1)) (l.take k ++ l.drop k) := List.Sublist.append_left (List.drop_sublist_drop_left l (Nat.le_succ k)) _
  rwa [List.take_append_drop] at h1

def Once (l : Rolls) : Prop := (l.map Prod.fst).Nodup

theorem Srt.once {l : Rolls} (h : Srt l) : Once l := by
  unfold Once
  rw [List.Nodup, List.pairwise_map]
  exact List.Pairwise.imp (fun {a b} hab e => by rw [e, blt_irrefl] at hab; cases hab) h

theorem get_mem {l : Rolls} (h : Once l) (n : ByteArray) (r : Rl) : Chest.get l n = some r ↔ (n, r) ∈ l := by
  induction l with
  | nil => simp [Chest.get]
  | cons e m ih =>
    have h' := List.nodup_cons.1 (show ((e :: m).map Prod.fst).Nodup from h)
    have ih := ih h'.2
    unfold Chest.get
    by_cases he : e.1 = n
    · rw [if_pos he]
      constructor
      · intro hr
        obtain rfl := Option.some.inj hr
        rw [← he]
        exact List.mem_cons_self
      · intro hr
        rcases List.mem_cons.1 hr with hr | hr
        · rw [← hr]
        · exact absurd (he ▸ List.mem_map.2 ⟨_, hr, rfl⟩) h'.1
    · rw [if_neg he, ih]
      constructor
      · exact fun hr => List.mem_cons_of_mem _ hr
      · intro hr
        rcases List.mem_cons.1 hr with hr | hr
        · exact absurd (by rw [← hr]) he
        · exact hr

theorem perm_once {l m : Rolls} (h : l.Perm m) (ha : Once l) : Once m := (h.map Prod.fst).nodup_iff.1 ha

theorem perm_get {l m : Rolls} (h : l.Perm m) (ha : Once l) (n : ByteArray) : Chest.get l n = Chest.get m n := by
  apply Option.ext
  intro r
  rw [get_mem ha, get_mem (perm_once h ha), h.mem_iff]

theorem perm_set {l m : Rolls} (h : l.Perm m) (n : ByteArray) (x : Rl) : (Chest.set l n x).Perm (Chest.set m n x) := h.map _

theorem perm_del {l m : Rolls} (h : l.Perm m) (n : ByteArray) : (Chest.del l n).Perm (Chest.del m n) := h.filter _

theorem perm_total {l m : Rolls} (h : l.Perm m) : total l = total m := (h.map _).sum_nat

/-- A sorted list is what it is. -/
theorem Srt.eq {l m : Rolls} (hl : Srt l) (hm : Srt m) (h : l.Perm m) : l = m :=
  List.Perm.eq_of_pairwise (le := fun a b : ByteArray × Rl => blt a.1 b.1 = true) (fun a b _ _ h1 h2 => by have := blt_trans h1 h2; rw [blt_irrefl] at this; cases this) hl hm h

end Go.Proofs.YtaekieoingflaaaGreatDoor

namespace Go.Proofs.YtaekieoingflaaaGreatDoor
open Go.Proofs.Chest

/-- A roll is put in at its place. -/
def rinS (l : Rolls) (n : ByteArray) (x : Rl) : Rolls := l.take (place l n) ++ (n, x) :: l.drop (place l n)
/-- A roll is taken out. -/
def routS (l : Rolls) (k : Nat) : Rolls := l.take k ++ l.drop (k + 1)

/-- The same chest, told by either. -/
structure Like (z : Nat) (st : St) (l : Rolls) : Prop where
  srt : Srt l
  perm : l.Perm st.l
  room : st.room + total st.l = z
  wf : Wf st

theorem Like.get {z : Nat} {st : St} {l : Rolls} (h : Like z st l) (n : ByteArray) : Chest.get st.l n = Chest.get l n := (perm_get h.perm h.srt.once n).symm

theorem Like.total {z : Nat} {st : St} {l : Rolls} (h : Like z st l) : total l = total st.l := perm_total h.perm

theorem Like.len {z : Nat} {st : St} {l : Rolls} (h : Like z st l) : l.length = st.l.length := h.perm.length_eq

theorem srt_names {l m : Rolls} (h : l.map Prod.fst = m.map Prod.fst) (hl : Srt l) : Srt m := by
  have e : ∀ l : Rolls, Srt l ↔ (l.map Prod.fst).Pairwise (fun a b => blt a b = true) := fun l => by
    unfold Srt
    rw [List.pairwise_map]
  rw [e] at hl ⊢
  rw [← h]
  exact hl

theorem set_at : ∀ {l : Rolls} {n : ByteArray} {k : Nat} {r : Rl} (x : Rl), Once l → l[k]? = some (n, r) → l.set k (n, x) = Chest.set l n x := by
  intro l
  induction l with
  | nil => intro n k r x _ h; simp at h
  | cons e m ih =>
    intro n k r x ho h
    have ho' := List.nodup_cons.1 (show ((e :: m).map Prod.fst).Nodup from ho)
    cases k with
    | zero =>
      simp at h
      subst h
      unfold Chest.set
      rw [List.set_cons_zero, List.map_cons, if_pos rfl]
      congr 1
      conv => lhs; rw [← List.map_id m]
      refine List.map_congr_left fun a ha => ?_
      have : ¬ a.1 = n := fun hh => ho'.1 (List.mem_map.2 ⟨a, ha, hh⟩)
      simp [this]
    | succ k =>
      rw [List.getElem?_cons_succ] at h
      have hm : (n, r) ∈ m := List.mem_of_getElem? h
      have he : ¬ e.1 = n := fun hh => ho'.1 (List.mem_map.2 ⟨_, hm, hh.symm⟩)
      have := ih x ho'.2 h
      unfold Chest.set at this ⊢
      rw [List.set_cons_succ, List.map_cons, if_neg he, this]

theorem out_at : ∀ {l : Rolls} {n : ByteArray} {k : Nat} {r : Rl}, Once l → l[k]? = some (n, r) → routS l k = Chest.del l n := by
  intro l
  induction l with
  | nil => intro n k r _ h; simp at h
  | cons e m ih =>
    intro n k r ho h
    have ho' := List.nodup_cons.1 (show ((e :: m).map Prod.fst).Nodup from ho)
    cases k with
    | zero =>
      simp at h
      subst h
      have e1 : Chest.del ((n, r) :: m) n = Chest.del m n := by simp [Chest.del]
      have e2 : Chest.del m n = m := by
        refine List.filter_eq_self.2 fun a ha => ?_
        simp only [decide_eq_true_eq]
        exact fun hh => ho'.1 (List.mem_map.2 ⟨a, ha, hh⟩)
      rw [e1, e2]
      rfl
    | succ k =>
      rw [List.getElem?_cons_succ] at h
      have hm : (n, r) ∈ m := List.mem_of_getElem? h
      have he : ¬ e.1 = n := fun hh => ho'.1 (List.mem_map.2 ⟨_, hm, hh.symm⟩)
      have e1 : Chest.del (e :: m) n = e :: Chest.del m n := by simp [Chest.del, he]
      rw [e1, ← ih ho'.2 h]
      rfl

/-- A roll of it is turned. -/
theorem Like.set {z : Nat} {st : St} {l : Rolls} (h : Like z st l) {n : ByteArray} {k : Nat} {r : Rl} (hk : l[k]? = some (n, r)) (x : Rl) {room' : Nat} (hr : room' + x.t.size = st.room + r.t.size) (hw : Wf ⟨room', Chest.set st.l n x⟩) :
    Like z ⟨room', Chest.set st.l n x⟩ (l.set k (n, x)) := by
  have ho := h.srt.once
  have hg : Chest.get st.l n = some r := by rw [h.get]; exact (get_mem ho n r).2 (List.mem_of_getElem? hk)
  rw [set_at x ho hk]
  refine ⟨srt_names ?_ h.srt, perm_set h.perm n x, ?_, hw⟩
  · exact (names_set l n x).symm
  · have h1 := h.room
    have h2 := total_set (x := x) (perm_once h.perm ho) hg
    simp only
    omega

theorem get_at {l : Rolls} {n : ByteArray} (h : Srt l) (ha : isAt l n = true) : ∃ r, Chest.get l n = some r ∧ l[place l n]? = some (n, r) := by
  obtain ⟨h1, h2⟩ := h.isat n
  rw [ha] at h1
  obtain ⟨r, hr⟩ := Option.isSome_iff_exists.1 h1.symm
  exact ⟨r, hr, h2 r hr⟩

theorem get_not {l : Rolls} {n : ByteArray} (h : Srt l) (ha : isAt l n = false) : Chest.get l n = none := by
  have h1 := (h.isat n).1
  rw [ha] at h1
  cases hg : Chest.get l n with
  | none => rfl
  | some r => rw [hg] at h1; cases h1

/-- Write, plainly. -/
def rwriteS (z : Nat) (l : Rolls) (n s : ByteArray) : Int × Rolls :=
  if okName n = false then (1, l) else if (z : Int) - (total l : Nat) < (s.size : Int) then (5, l) else
    match isAt l n, l[place l n]? with
    | true, some e => (0, l.set (place l n) (n, ⟨e.2.t ++ s, e.2.p, e.2.s⟩))
    | _, _ => (0, rinS l n ⟨s, 0, false⟩)

theorem like_write {z : Nat} {st : St} {l : Rolls} (h : Like z st l) (n s : ByteArray) : (rwriteS z l n s).1 = (write st n s).1 ∧ Like z (write st n s).2 (rwriteS z l n s).2 := by
  have hw := wf_write h.wf n s
  have hr := h.room
  have ht := h.total
  have hg := h.get n
  unfold rwriteS
  unfold write at hw ⊢
  by_cases h1 : okName n = false
  · rw [if_pos h1, if_pos h1]
    exact ⟨rfl, h⟩
  · rw [if_neg h1, if_neg h1]
    rw [if_neg h1] at hw
    by_cases h2 : st.room < s.size
    · rw [if_pos h2, if_pos (by omega)]
      exact ⟨rfl, h⟩
    · rw [if_neg h2, if_neg (by omega)]
      rw [if_neg h2] at hw
      cases ha : isAt l n with
      | true =>
        obtain ⟨r, e1, e2⟩ := get_at h.srt ha
        rw [e2]
        rw [e1] at hg
        rw [hg] at hw ⊢
        refine ⟨rfl, h.set e2 _ ?_ hw⟩
        rw [ByteArray.size_append]
        omega
      | false =>
        have e1 := get_not h.srt ha
        rw [e1] at hg
        rw [hg] at hw ⊢
        obtain ⟨p1, p2⟩ := h.srt.put e1 ⟨s, 0, false⟩
        refine ⟨rfl, p1, p2.trans (h.perm.cons _), ?_, hw⟩
        show st.room - s.size + Chest.total ((n, (⟨s, 0, false⟩ : Rl)) :: st.l) = z
        have : Chest.total ((n, (⟨s, 0, false⟩ : Rl)) :: st.l) = s.size + Chest.total st.l := rfl
        omega

/-- Press, plainly. -/
def rpressS (l : Rolls) (n : ByteArray) : Int × Rolls :=
  match isAt l n, l[place l n]? with
  | true, some e => (0, l.set (place l n) (n, ⟨e.2.t, e.2.t.size, true⟩))
  | _, _ => (6, l)

theorem like_press {z : Nat} {st : St} {l : Rolls} (h : Like z st l) (n : ByteArray) : (rpressS l n).1 = (press st n).1 ∧ Like z (press st n).2 (rpressS l n).2 := by
  have hw := wf_press h.wf n
  have hg := h.get n
  unfold rpressS
  unfold press at hw ⊢
  cases ha : isAt l n with
  | true =>
    obtain ⟨r, e1, e2⟩ := get_at h.srt ha
    rw [e2]
    rw [e1] at hg
    rw [hg] at hw ⊢
    exact ⟨rfl, h.set e2 _ rfl hw⟩
  | false =>
    have e1 := get_not h.srt ha
    rw [e1] at hg
    rw [hg]
    exact ⟨rfl, h⟩

/-- Cut, plainly. -/
def rcutS (l : Rolls) (n : ByteArray) (m : Int) : Int × Rolls :=
  match isAt l n, l[place l n]? with
  | true, some e => if m < 0 ∨ (e.2.t.size : Int) < m then (4, l) else (0, l.set (place l n) (n, ⟨e.2.t.extract 0 m.toNat, min e.2.p m.toNat, true⟩))
  | _, _ => (6, l)

theorem like_cut {z : Nat} {st : St} {l : Rolls} (h : Like z st l) (n : ByteArray) (m : Int) : (rcutS l n m).1 = (cut st n m).1 ∧ Like z (cut st n m).2 (rcutS l n m).2 := by
  have hw := wf_cut h.wf n m
  have hg := h.get n
  unfold rcutS
  unfold cut at hw ⊢
  cases ha : isAt l n with
  | true =>
    obtain ⟨r, e1, e2⟩ := get_at h.srt ha
    rw [e2]
    rw [e1] at hg
    rw [hg] at hw ⊢
    simp only at hw ⊢
    by_cases hm : m < 0 ∨ (r.t.size : Int) < m
    · rw [if_pos hm, if_pos hm]
      exact ⟨rfl, h⟩
    · rw [if_neg hm, if_neg hm]
      rw [if_neg hm] at hw
      refine ⟨rfl, h.set e2 _ ?_ hw⟩
      rw [ByteArray.size_extract]
      omega
  | false =>
    have e1 := get_not h.srt ha
    rw [e1] at hg
    rw [hg]
    exact ⟨rfl, h⟩

/-- Call, plainly. -/
def rcallS (l : Rolls) (f t : ByteArray) : Int × Rolls :=
  if okName t = false then (1, l) else
    match isAt l f, l[place l f]? with
    | true, some e => if f = t then (0, l) else
        (0, rinS (if isAt (routS l (place l f)) t = true then routS (routS l (place l f)) (place (routS l (place l f)) t) else routS l (place l f)) t ⟨e.2.t, e.2.p, true⟩)
    | _, _ => (6, l)

theorem del_none {l : Rolls} {n : ByteArray} (h : Chest.get l n = none) : Chest.del l n = l := by
  refine List.filter_eq_self.2 fun a ha => ?_
  simp only [decide_eq_true_eq]
  exact get_none.1 h a ha

theorem like_call {z : Nat} {st : St} {l : Rolls} (h : Like z st l) (f t : ByteArray) : (rcallS l f t).1 = (call st f t).1 ∧ Like z (call st f t).2 (rcallS l f t).2 := by
  have hw := wf_call h.wf f t
  have hg := h.get f
  have hgt := h.get t
  have hr := h.room
  unfold rcallS
  unfold call at hw ⊢
  by_cases h1 : okName t = false
  · rw [if_pos h1, if_pos h1]
    exact ⟨rfl, h⟩
  · rw [if_neg h1, if_neg h1]
    rw [if_neg h1] at hw
    cases ha : isAt l f with
    | false =>
      have e1 := get_not h.srt ha
      rw [e1] at hg
      rw [hg]
      exact ⟨rfl, h⟩
    | true =>
      obtain ⟨r, e1, e2⟩ := get_at h.srt ha
      rw [e2]
      rw [e1] at hg
      rw [hg] at hw ⊢
      simp only at hw ⊢
      by_cases hft : f = t
      · rw [if_pos hft, if_pos hft]
        exact ⟨rfl, h⟩
      · rw [if_neg hft, if_neg hft]
        rw [if_neg hft] at hw
        have ho := h.srt.once
        have s1 : Srt (routS l (place l f)) := h.srt.out _
        rw [out_at ho e2] at s1 ⊢
        have gt : Chest.get (Chest.del l f) t = Chest.get l t := get_del_other (fun e => hft e.symm)
        have two : (if isAt (Chest.del l f) t = true then routS (Chest.del l f) (place (Chest.del l f) t) else Chest.del l f) = Chest.del (Chest.del l f) t := by
          cases hb : isAt (Chest.del l f) t with
          | true =>
            obtain ⟨o, _, e4⟩ := get_at s1 hb
            rw [if_pos rfl]
            exact out_at s1.once e4
          | false =>
            rw [if_neg (by decide)]
            exact (del_none (get_not s1 hb)).symm
        rw [two]
        have s2 : Srt (Chest.del (Chest.del l f) t) := List.Pairwise.sublist List.filter_sublist s1
        obtain ⟨p1, p2⟩ := s2.put (get_del_same _ t) ⟨r.t, r.p, true⟩
        refine ⟨rfl, p1, p2.trans ((perm_del (perm_del h.perm f) t).cons _), ?_, hw⟩
        have t1 := total_del (n := f) (perm_once h.perm ho)
        have t2 := total_del (n := t) (nodup_del f (perm_once h.perm ho))
        rw [get_del_other (fun e => hft e.symm)] at t2
        rw [hg] at t1
        show st.room + _ + Chest.total ((t, (⟨r.t, r.p, true⟩ : Rl)) :: Chest.del (Chest.del st.l f) t) = z
        have : Chest.total ((t, (⟨r.t, r.p, true⟩ : Rl)) :: Chest.del (Chest.del st.l f) t) = r.t.size + Chest.total (Chest.del (Chest.del st.l f) t) := rfl
        simp only at t1 t2
        omega

theorem like_tear {z : Nat} {st : St} {l : Rolls} (h : Like z st l) (n : Int) : Like z (tear st n) (tRolls l n) := by
  refine ⟨?_, tRolls_perm h.perm, ?_, wf_tear h.wf n⟩
  · have := names_tear l n
    have e : ∀ l : Rolls, Srt l ↔ (l.map Prod.fst).Pairwise (fun a b => blt a b = true) := fun l => by
      unfold Srt
      rw [List.pairwise_map]
    rw [e]
    exact List.Pairwise.sublist this ((e l).1 h.srt)
  · have h1 := total_tear st.l n h.wf.pressed
    have h2 := h.room
    unfold tear
    simp only
    omega

theorem like_new (room : Nat) (h : room ≤ 1048576) : Like room ⟨room, []⟩ [] := ⟨List.Pairwise.nil, .refl _, by simp [Chest.total], wf_new room h⟩

/-- What is torn stays as it is when it is torn again. -/
theorem stays_torn {r x : Rl} {n : Int} (hp : r.p ≤ r.t.size) (h : torn r n = some x) (m : Int) : torn x m = some x := by
  unfold torn at h
  have hs := stays_le r n hp
  split at h
  · obtain rfl := Option.some.inj h
    have e1 : (r.t.extract 0 (stays r n)).size = stays r n := by rw [ByteArray.size_extract]; omega
    have e2 : stays ⟨r.t.extract 0 (stays r n), stays r n, true⟩ m = stays r n := by
      unfold stays
      simp only
      unfold stays at e1
      rw [e1, Nat.sub_self, Nat.zero_add, Nat.mod_one, Nat.add_zero]
    unfold torn
    rw [e2, if_pos (.inr rfl)]
    have e3 : (r.t.extract 0 (stays r n)).extract 0 (stays r n) = r.t.extract 0 (stays r n) := by
      conv => lhs; arg 3; rw [← e1]
      exact ByteArray.extract_zero_size
    simp only [e3]
  · cases h

theorem tRolls_again {l : Rolls} (hp : ∀ e ∈ l, e.2.p ≤ e.2.t.size) (n m : Int) : tRolls (tRolls l n) m = tRolls l n := by
  induction l with
  | nil => rfl
  | cons e r ih =>
    have ih := ih (fun x hx => hp x (by simp [hx]))
    rw [tRolls_cons]
    cases h : torn e.2 n with
    | none => simpa using ih
    | some x =>
      simp only
      rw [tRolls_cons]
      simp only
      rw [stays_torn (hp e (by simp)) h m]
      simp only [ih]

theorem total_tRolls_le {l : Rolls} (hp : ∀ e ∈ l, e.2.p ≤ e.2.t.size) (n : Int) : Chest.total (tRolls l n) ≤ Chest.total l := by
  have := total_tear l n hp
  unfold tRolls
  omega

end Go.Proofs.YtaekieoingflaaaGreatDoor

namespace Go.Proofs.YtaekieoingflaaaGreatDoor
open Go.RowKit Go.Maps Go.Proofs.MapD Go.Proofs.Chest

theorem RC.shape {w : World} {B c z cap : Nat} {ad : Option Addr} {l : Rolls} (h : RC w B c z ad cap l) : (ad = none ∧ l = [] ∧ cap = 0) ∨ ∃ g, ad = some ⟨g, 0, none⟩ := by
  cases ad with
  | none => exact .inl ⟨rfl, h.nil⟩
  | some a =>
    rcases h.row.2 with ⟨h0, _⟩ | ⟨g, cap', cur, hv, _⟩
    · cases h0
    · cases hv
      exact .inr ⟨g, rfl⟩

theorem rin_p {w : World} {B c z cap : Nat} {ad : Option Addr} {l : Rolls} (h : RC w B c z ad cap l) (n t : ByteArray) (q : Nat) (sr : Bool) (hn : l.length ≤ 1000000) :
    Calls Tryz.prog 62 #[.pointer (some ⟨c, 0, none⟩), .agg #[.string n, .string t, .int .i64 q, .bool sr]] w fun e w' => e = .returned (.tuple #[]) ∧ Made B c z (rinS l n ⟨t, q, sr⟩) w w' := by
  rcases h.shape with ⟨rfl, rfl, rfl⟩ | ⟨g, rfl⟩
  · exact rin_none h n t q sr
  · exact rin_some h n t q sr hn

theorem set_same_at (L : List Value) (i j : Nat) (u v : Value) (hij : i ≠ j) (h : L[j]? = some v) : (L.set i u).set j v = L.set i u := by
  obtain ⟨hl, he⟩ := List.getElem?_eq_some_iff.1 h
  have h2 : j < (L.set i u).length := by rw [List.length_set]; exact hl
  have h3 : (L.set i u)[j] = v := by rw [List.getElem_set_ne hij]; exact he
  conv => lhs; rw [← h3]
  exact List.set_getElem_self h2

/-- The bytes of a roll of it are turned. -/
theorem RC.turned1 {w : World} {B c z g cap : Nat} {l : Rolls} (h : RC w B c z (some ⟨g, 0, none⟩) cap l) {k : Nat} (hk : k < l.length) (t : ByteArray) :
    RC (w.setCell ⟨g, k * 4 + 1, none⟩ (.string t)) B c z (some ⟨g, 0, none⟩) cap (l.set k (l[k].1, ⟨t, l[k].2.p, l[k].2.s⟩)) := by
  have hgc : g ≠ c := h.apart g rfl
  have e3 : (w.setCell ⟨g, k * 4 + 1, none⟩ (.string t)).heap[c]? = w.heap[c]? := Below.heap_setCell _ _ _ _ (fun x => hgc x.symm)
  refine ⟨?_, ?_, ?_, ?_, ?_, ?_, h.base⟩
  · rw [cell_of_block e3]; exact h.c0
  · rw [cell_of_block e3, List.length_set]; exact h.c1
  · rw [frozen_of_block e3]; exact h.f0
  · rw [frozen_of_block e3]; exact h.f1
  · rw [List.length_set, rcells_set l k hk ⟨t, l[k].2.p, l[k].2.s⟩]
    obtain ⟨_, _, e2, e4⟩ := rcells_at l k hk
    have h1 : ((rcells l).set (k * 4 + 1) (.string t)).set (k * 4 + 2) (.int .i64 l[k].2.p) = (rcells l).set (k * 4 + 1) (.string t) := set_same_at _ _ _ _ _ (by omega) e2
    have h2 : ((rcells l).set (k * 4 + 1) (.string t)).set (k * 4 + 3) (.bool l[k].2.s) = (rcells l).set (k * 4 + 1) (.string t) := set_same_at _ _ _ _ _ (by omega) e4
    simp only
    rw [h1, h2]
    exact owns_setCell h.row _ _
  · rw [List.length_set]; exact h.apart

/-- The chest, turned. -/
def RT (c z : Nat) (ad : Option Addr) (w : World) (l' : Rolls) (w' : World) : Prop :=
  ∃ ad' cap', RC w' 0 c z ad' cap' l' ∧ Only (c :: (ad.map (·.block)).toList) w w' ∧ ∀ g o, ad' = some ⟨g, o, none⟩ → ad.map (·.block) = some g ∨ w.heap.size ≤ g

theorem RT.same {c z cap : Nat} {ad : Option Addr} {w : World} {l : Rolls} (h : RC w 0 c z ad cap l) {w' : World} (hq : Only [] w w') : RT c z ad w l w' :=
  ⟨ad, cap, h.kept hq, hq.mono (by simp), fun g o e => .inl (by rw [e]; rfl)⟩

theorem Only.quiet (w : World) (q : Nat) : Only [] w (w.drewN q) := ⟨rfl, rfl, rfl, Nat.le_refl _, fun _ _ _ => rfl⟩

section
variable {w : World} {c z cap : Nat} {ad : Option Addr} {l : Rolls}

set_option maxRecDepth 100000 in
set_option maxHeartbeats 4000000 in
theorem rwrite_form (n s : ByteArray) (hns : n.size ≤ 1000000) (hk : okName n = false) :
    Calls Tryz.prog 29 #[.pointer (some ⟨c, 0, none⟩), .string n, .string s] w fun e w' => e = .returned (.int .i64 1) ∧ w = w' := by
  have NM := Lib.hid (rname_c n hns w)
  rw [hk] at NM
  clear hk
  go_enter Tryz.func29, Tryz.ntmps29
  go_wp2_with (go_at_call 60; refine NM.out.mono ?_; rintro _ _ ⟨rfl, rfl⟩)
  go_ret
  exact ⟨rfl, rfl⟩

set_option maxRecDepth 100000 in
set_option maxHeartbeats 4000000 in
theorem rwrite_full (h : RC w 0 c z ad cap l) (ht : total l ≤ z) (hz : z ≤ 1048576) (hn : l.length ≤ 1000000) (n s : ByteArray) (hns : n.size ≤ 1000000) (hk : okName n = true) (hs : (z : Int) - (total l : Nat) < (s.size : Int)) :
    Calls Tryz.prog 29 #[.pointer (some ⟨c, 0, none⟩), .string n, .string s] w fun e w' => e = .returned (.int .i64 5) ∧ w = w' := by
  have NM := Lib.hid (rname_c n hns w)
  rw [hk] at NM
  have RM := Lib.hid (rroom_c h ht hz hn)
  generalize (z : Int) - (total l : Nat) = R at *
  clear hk h
  go_enter Tryz.func29, Tryz.ntmps29
  go_wp2_with (first
    | (go_at_call 60; refine NM.out.mono ?_; rintro _ _ ⟨rfl, rfl⟩)
    | (go_at_call 34; refine RM.out.mono ?_; rintro _ _ ⟨rfl, rfl⟩))
  go_ret
  exact ⟨rfl, rfl⟩

set_option maxRecDepth 100000 in
set_option maxHeartbeats 4000000 in
theorem rwrite_at {g : Nat} (h : RC w 0 c z (some ⟨g, 0, none⟩) cap l) (ht : total l ≤ z) (hz : z ≤ 1048576) (hn : l.length ≤ 1000000) (n s : ByteArray) (hns : n.size ≤ 1000000) (hk : okName n = true) (hs : ¬ (z : Int) - (total l : Nat) < (s.size : Int))
    {p : Nat} (hp : p < l.length) (hpl : place l n = p) (hat : isAt l n = true) :
    Calls Tryz.prog 29 #[.pointer (some ⟨c, 0, none⟩), .string n, .string s] w fun e w' => e = .returned (.int .i64 0) ∧ RT c z (some ⟨g, 0, none⟩) w (l.set p (l[p].1, ⟨l[p].2.t ++ s, l[p].2.p, l[p].2.s⟩)) w' := by
  have NM := Lib.hid (rname_c n hns w)
  rw [hk] at NM
  have RM := Lib.hid (rroom_c h ht hz hn)
  have HAT := Lib.hid (rat_c h n hn)
  rw [hat, hpl] at HAT
  have HR := Lib.hid h
  have hsz : s.size ≤ 1048576 := by omega
  generalize (z : Int) - (total l : Nat) = R at *
  have HF : Hid (∀ q1, RT c z (some ⟨g, 0, none⟩) w (l.set p (l[p].1, ⟨l[p].2.t ++ s, l[p].2.p, l[p].2.s⟩)) ((w.drewN q1).setCell ⟨g, p * 4 + 1, none⟩ (.string (l[p].2.t ++ s)))) := Lib.hid (fun q1 =>
    ⟨_, _, (HR.out.kept (Only.quiet w q1)).turned1 hp _, ((Only.quiet w q1).mono (by simp)).setCell (.inl (by simp)) _, fun g' o' e' => .inl (by cases e'; rfl)⟩)
  have htt := total_le (List.getElem_mem hp)
  have hts : l[p].2.t.size + s.size ≤ 9223372036854775807 := by omega
  clear htt
  have z1 := h.free hp 1 (by omega)
  obtain ⟨g', hg', hlc, hcm, _, g1, _, _⟩ := h.at hp
  cases hg'
  obtain ⟨_, c1, _, _, _, _, _⟩ := h
  generalize l[p].2.t = t at *
  have hpl' : (p : Int) < (l.length : Int) := by omega
  have hd : decide (R < (s.size : Int)) = false := decide_eq_false hs
  clear hk hat hpl hs
  go_enter Tryz.func29, Tryz.ntmps29
  go_wp2_with (first
    | (go_at_call 60; refine NM.out.mono ?_; rintro _ _ ⟨rfl, rfl⟩)
    | (go_at_call 34; refine RM.out.mono ?_; rintro _ _ ⟨rfl, rfl⟩)
    | (go_at_call 61; refine HAT.out.mono ?_; rintro _ _ ⟨rfl, q1, rfl⟩))
  go_ret
  exact ⟨rfl, HF.out _⟩

/-- What follows what was made. -/
theorem RT.made {B' : Nat} {w1 w2 : World} {l2 : Rolls} {g' cap' : Nat} (ho : Only [c] w w1) (hg : w.heap.size ≤ g') (h2 : RC w2 B' c z (some ⟨g', 0, none⟩) cap' l2) (hB : B' = 0) (ho2 : Only [g'] w1 w2) : RT c z ad w l2 w2 := by
  subst hB
  refine ⟨_, _, h2, ?_, fun g o e => .inr (by cases e; exact hg)⟩
  have hgn : ∀ k, k < w.heap.size → k ∉ [g'] := fun k hk hm => by
    have := List.mem_singleton.1 hm
    omega
  exact ⟨ho2.os.trans ho.os, ho2.tape.trans ho.tape, ho2.output.trans ho.output, Nat.le_trans ho.size ho2.size, fun k hk hm => (ho2.block k (Nat.lt_of_lt_of_le hk ho.size) (hgn k hk)).trans (ho.block k hk (fun hc => hm (by
    have := List.mem_singleton.1 hc
    simp [this])))⟩

theorem put_at (l : Rolls) (n : ByteArray) (x : Rl) : place l n < (rinS l n x).length ∧ (rinS l n x)[place l n]? = some (n, x) ∧ ∀ y, (rinS l n x).set (place l n) (n, y) = rinS l n y := by
  have hp := place_le l n
  have h1 : (l.take (place l n)).length = place l n := by rw [List.length_take, Nat.min_eq_left hp]
  refine ⟨?_, ?_, fun y => ?_⟩
  · unfold rinS
    simp only [List.length_append, h1, List.length_cons]
    omega
  · unfold rinS
    rw [List.getElem?_append_right (by omega), h1, Nat.sub_self]
    rfl
  · unfold rinS
    rw [List.set_append_right _ _ (by omega), h1, Nat.sub_self]
    rfl

theorem rin_len (l : Rolls) (n : ByteArray) (x : Rl) : (rinS l n x).length = l.length + 1 := by
  have hp := place_le l n
  unfold rinS
  simp only [List.length_append, List.length_take, List.length_cons, List.length_drop]
  omega

set_option maxRecDepth 100000 in
set_option maxHeartbeats 4000000 in
theorem rwrite_new (h : RC w 0 c z ad cap l) (ht : total l ≤ z) (hz : z ≤ 1048576) (hn : l.length ≤ 900000) (n s : ByteArray) (hns : n.size ≤ 1000000) (hk : okName n = true) (hs : ¬ (z : Int) - (total l : Nat) < (s.size : Int)) (hat : isAt l n = false) :
    Calls Tryz.prog 29 #[.pointer (some ⟨c, 0, none⟩), .string n, .string s] w fun e w' => e = .returned (.int .i64 0) ∧ RT c z ad w (rinS l n ⟨s, 0, false⟩) w' := by
  have NM := Lib.hid (rname_c n hns w)
  rw [hk] at NM
  have RM := Lib.hid (rroom_c h ht hz (by omega))
  have HAT := Lib.hid (rat_c h n (by omega))
  rw [hat] at HAT
  have HIN := Lib.hid (fun q1 => rin_p (h.kept (Only.quiet w q1)) n ⟨#[]⟩ 0 false (by omega))
  have HR := Lib.hid h
  have hsz : s.size ≤ 1048576 := by omega
  generalize (z : Int) - (total l : Nat) = R at *
  have hd : decide (R < (s.size : Int)) = false := decide_eq_false hs
  obtain ⟨p1, p2, p3⟩ := put_at l n ⟨⟨#[]⟩, 0, false⟩
  have HL := rin_len l n ⟨⟨#[]⟩, 0, false⟩
  have HP3 := Lib.hid p3
  have HP2 := Lib.hid p2
  generalize place l n = p at *
  clear hk hat hs h p3 p2
  go_enter Tryz.func29, Tryz.ntmps29
  go_wp2_with (first
    | (go_at_call 60; refine NM.out.mono ?_; rintro _ _ ⟨rfl, rfl⟩)
    | (go_at_call 34; refine RM.out.mono ?_; rintro _ _ ⟨rfl, rfl⟩)
    | (go_at_call 61; refine HAT.out.mono ?_; rintro _ _ ⟨rfl, q1, rfl⟩))
  refine (HIN.out q1).mono ?_
  rintro _ w1 ⟨rfl, ad', cap', hr, ho, hnew⟩
  obtain ⟨g', rfl⟩ : ∃ g', ad' = some ⟨g', 0, none⟩ := by
    rcases hr.shape with ⟨_, h0, _⟩ | h0
    · rw [h0] at p1
      cases p1
    · exact h0
  have hgw : w.heap.size ≤ g' := hnew g' 0 rfl
  have HR1 := Lib.hid hr
  have e0 : (rinS l n ⟨⟨#[]⟩, 0, false⟩)[p] = (n, (⟨⟨#[]⟩, 0, false⟩ : Rl)) := (List.getElem?_eq_some_iff.1 HP2.out).2
  have z1 := hr.free p1 1 (by omega)
  obtain ⟨g2, hg2, hlc, hcm, _, g1, _, _⟩ := hr.at p1
  cases hg2
  rw [e0] at g1
  have HF : Hid (RT c z ad w (rinS l n ⟨s, 0, false⟩) (w1.setCell ⟨g', p * 4 + 1, none⟩ (.string s))) := Lib.hid (by
    have h2 := HR1.out.turned1 p1 s
    rw [e0] at h2
    simp only at h2
    rw [HP3.out] at h2
    exact RT.made (by have := ho; exact ⟨this.os, this.tape, this.output, this.size, this.block⟩) hgw h2 rfl ((Only.refl _ _).setCell (.inl (by simp)) _))
  obtain ⟨_, c1, _, _, _, _, _⟩ := hr
  have hpl' : (p : Int) < ((rinS l n ⟨⟨#[]⟩, 0, false⟩).length : Int) := by omega
  have hem : (⟨#[]⟩ : ByteArray) ++ s = s := empty_app s
  have hts : (⟨#[]⟩ : ByteArray).size + s.size ≤ 9223372036854775807 := by
    have : (⟨#[]⟩ : ByteArray).size = 0 := rfl
    omega
  clear ho hnew e0 HL
  go_wp2_with fail
  go_ret
  exact ⟨rfl, HF.out⟩

/-- Write. -/
theorem rwrite_p (h : RC w 0 c z ad cap l) (ht : total l ≤ z) (hz : z ≤ 1048576) (hn : l.length ≤ 900000) (n s : ByteArray) (hns : n.size ≤ 1000000) :
    Calls Tryz.prog 29 #[.pointer (some ⟨c, 0, none⟩), .string n, .string s] w fun e w' => e = .returned (.int .i64 (rwriteS z l n s).1) ∧ RT c z ad w (rwriteS z l n s).2 w' := by
  have same : ∀ (e : Ending) (w' : World) (k : Int), (e = .returned (.int .i64 k) ∧ w = w') → e = .returned (.int .i64 k) ∧ RT c z ad w l w' := by
    rintro e w' k ⟨h1, rfl⟩
    exact ⟨h1, RT.same h (Only.refl _ _)⟩
  unfold rwriteS
  by_cases hk : okName n = false
  · rw [if_pos hk]
    exact (rwrite_form n s hns hk).mono fun e w' x => same e w' 1 x
  · have hk' : okName n = true := by simpa using hk
    rw [if_neg hk]
    by_cases hs : (z : Int) - (total l : Nat) < (s.size : Int)
    · rw [if_pos hs]
      exact (rwrite_full h ht hz (by omega) n s hns hk' hs).mono fun e w' x => same e w' 5 x
    · rw [if_neg hs]
      cases ha : isAt l n with
      | false => exact rwrite_new h ht hz hn n s hns hk' hs ha
      | true =>
        have hp := isAt_lt ha
        have e1 := List.getElem?_eq_getElem hp
        have e2 : l[place l n].1 = n := by
          unfold isAt at ha
          rw [e1] at ha
          simpa using ha
        rw [e1]
        rcases h.shape with ⟨_, h0, _⟩ | ⟨g, rfl⟩
        · rw [h0] at hp
          cases hp
        · have := rwrite_at h ht hz (by omega) n s hns hk' hs hp rfl ha
          rw [e2] at this
          exact this

end
end Go.Proofs.YtaekieoingflaaaGreatDoor

namespace Go.Proofs.YtaekieoingflaaaGreatDoor
open Go.RowKit Go.Maps Go.Proofs.MapD Go.Proofs.Chest

section
variable {w : World} {c z cap : Nat} {ad : Option Addr} {l : Rolls}

theorem at_some {n : ByteArray} (h : RC w 0 c z ad cap l) (ha : isAt l n = true) : ∃ g, ad = some ⟨g, 0, none⟩ ∧ ∃ hp : place l n < l.length, l[place l n]? = some l[place l n] ∧ l[place l n].1 = n := by
  have hp := isAt_lt ha
  have e1 := List.getElem?_eq_getElem hp
  have e2 : l[place l n].1 = n := by
    unfold isAt at ha
    rw [e1] at ha
    simpa using ha
  rcases h.shape with ⟨_, h0, _⟩ | ⟨g, rfl⟩
  · rw [h0] at hp
    cases hp
  · exact ⟨g, rfl, hp, e1, e2⟩

theorem RT.set {g : Nat} {l' : Rolls} {w' : World} (h : RC w' 0 c z (some ⟨g, 0, none⟩) cap l') (ho : Only [g] w w') : RT c z (some ⟨g, 0, none⟩) w l' w' :=
  ⟨_, _, h, ho.mono (by simp), fun g' o' e' => .inl (by cases e'; rfl)⟩

/-- Press. -/
theorem rpress_p2 (h : RC w 0 c z ad cap l) (n : ByteArray) (hn : l.length ≤ 1000000) :
    Calls Tryz.prog 30 #[.pointer (some ⟨c, 0, none⟩), .string n] w fun e w' => e = .returned (.int .i64 (rpressS l n).1) ∧ RT c z ad w (rpressS l n).2 w' := by
  unfold rpressS
  cases ha : isAt l n with
  | false => exact (rpress_none h n hn ha).mono fun e w' ⟨h1, h2⟩ => ⟨h1, RT.same h h2⟩
  | true =>
    obtain ⟨g, rfl, hp, e1, e2⟩ := at_some h ha
    rw [e1]
    refine (rpress_at h n hn hp rfl rfl ha).mono ?_
    rw [e2]
    exact fun e w' ⟨h1, h2, h3⟩ => ⟨h1, RT.set h2 h3⟩

/-- Cut. -/
theorem rcut_p2 (h : RC w 0 c z ad cap l) (n : ByteArray) (m : Int) (hn : l.length ≤ 1000000) :
    Calls Tryz.prog 31 #[.pointer (some ⟨c, 0, none⟩), .string n, .int .i64 m] w fun e w' => e = .returned (.int .i64 (rcutS l n m).1) ∧ RT c z ad w (rcutS l n m).2 w' := by
  unfold rcutS
  cases ha : isAt l n with
  | false => exact (rcut_none h n m hn ha).mono fun e w' ⟨h1, h2⟩ => ⟨h1, RT.same h h2⟩
  | true =>
    obtain ⟨g, rfl, hp, e1, e2⟩ := at_some h ha
    rw [e1]
    by_cases hm : m < 0 ∨ (l[place l n].2.t.size : Int) < m
    · simp only [if_pos hm]
      exact (rcut_range h n hn hp rfl rfl ha m hm).mono fun e w' ⟨h1, h2⟩ => ⟨h1, RT.same h h2⟩
    · simp only [if_neg hm]
      obtain ⟨k, rfl⟩ : ∃ k : Nat, m = (k : Int) := ⟨m.toNat, by omega⟩
      refine (rcut_at h n hn hp rfl rfl rfl ha (m := k) (by omega)).mono ?_
      rw [e2]
      exact fun e w' ⟨h1, h2, h3⟩ => ⟨h1, RT.set h2 h3⟩

theorem Made.after {B : Nat} {w1 w2 : World} {l2 : Rolls} (h : Only [c] w w1) (h2 : Made B c z l2 w1 w2) : Made B c z l2 w w2 := by
  obtain ⟨ad', cap', h3, h4, h5⟩ := h2
  exact ⟨ad', cap', h3, h.trans h4 (fun i hi => .inl hi), fun g o e => Nat.le_trans h.size (h5 g o e)⟩

theorem Made.rt {w2 : World} {l2 : Rolls} (h2 : Made 0 c z l2 w w2) : RT c z ad w l2 w2 := by
  obtain ⟨ad', cap', h3, h4, h5⟩ := h2
  exact ⟨ad', cap', h3, h4.mono (by simp), fun g o e => .inr (h5 g o e)⟩

set_option maxRecDepth 100000 in
set_option maxHeartbeats 4000000 in
theorem rcall_form (h : RC w 0 c z ad cap l) (f t : ByteArray) (hn : l.length ≤ 1000000) (hts : t.size ≤ 1000000) (hk : okName t = false) :
    Calls Tryz.prog 32 #[.pointer (some ⟨c, 0, none⟩), .string f, .string t] w fun e w' => e = .returned (.int .i64 1) ∧ Only [] w w' := by
  have NM := Lib.hid (fun w1 => rname_c t hts w1)
  rw [hk] at NM
  have HAT := Lib.hid (rat_c h f hn)
  generalize place l f = p at *
  generalize isAt l f = b at *
  clear hk h
  go_enter Tryz.func32, Tryz.ntmps32
  go_wp2_with (first
    | (go_at_call 60; refine (NM.out _).mono ?_; rintro _ _ ⟨rfl, rfl⟩)
    | (go_at_call 61; refine HAT.out.mono ?_; rintro _ _ ⟨rfl, q1, rfl⟩))
  go_ret
  exact ⟨rfl, Only.quiet _ _⟩

set_option maxRecDepth 100000 in
set_option maxHeartbeats 4000000 in
theorem rcall_none (h : RC w 0 c z ad cap l) (f t : ByteArray) (hn : l.length ≤ 1000000) (hts : t.size ≤ 1000000) (hk : okName t = true) (hat : isAt l f = false) :
    Calls Tryz.prog 32 #[.pointer (some ⟨c, 0, none⟩), .string f, .string t] w fun e w' => e = .returned (.int .i64 6) ∧ Only [] w w' := by
  have NM := Lib.hid (fun w1 => rname_c t hts w1)
  rw [hk] at NM
  have HAT := Lib.hid (rat_c h f hn)
  rw [hat] at HAT
  generalize place l f = p at *
  clear hk h hat
  go_enter Tryz.func32, Tryz.ntmps32
  go_wp2_with (first
    | (go_at_call 60; refine (NM.out _).mono ?_; rintro _ _ ⟨rfl, rfl⟩)
    | (go_at_call 61; refine HAT.out.mono ?_; rintro _ _ ⟨rfl, q1, rfl⟩))
  go_ret
  exact ⟨rfl, Only.quiet _ _⟩

set_option maxRecDepth 100000 in
set_option maxHeartbeats 4000000 in
theorem rcall_same (h : RC w 0 c z ad cap l) (f : ByteArray) (hn : l.length ≤ 1000000) (hts : f.size ≤ 1000000) (hk : okName f = true) (hat : isAt l f = true) :
    Calls Tryz.prog 32 #[.pointer (some ⟨c, 0, none⟩), .string f, .string f] w fun e w' => e = .returned (.int .i64 0) ∧ Only [] w w' := by
  have NM := Lib.hid (fun w1 => rname_c f hts w1)
  rw [hk] at NM
  have HAT := Lib.hid (rat_c h f hn)
  rw [hat] at HAT
  generalize place l f = p at *
  clear hk h hat
  go_enter Tryz.func32, Tryz.ntmps32
  go_wp2_with (first
    | (go_at_call 60; refine (NM.out _).mono ?_; rintro _ _ ⟨rfl, rfl⟩)
    | (go_at_call 61; refine HAT.out.mono ?_; rintro _ _ ⟨rfl, q1, rfl⟩))
  go_ret
  exact ⟨rfl, Only.quiet _ _⟩

/-- A chest stays where its blocks do. -/
theorem RC.far {B : Nat} {w' : World} (h : RC w B c z ad cap l) (hc : w'.heap[c]? = w.heap[c]?) (hg : ∀ g, ad = some ⟨g, 0, none⟩ → w'.heap[g]? = w.heap[g]?) : RC w' B c z ad cap l := by
  refine ⟨?_, ?_, ?_, ?_, ⟨h.row.1, ?_⟩, h.apart, h.base⟩
  · rw [cell_of_block hc]; exact h.c0
  · rw [cell_of_block hc]; exact h.c1
  · rw [frozen_of_block hc]; exact h.f0
  · rw [frozen_of_block hc]; exact h.f1
  · rcases h.row.2 with h0 | ⟨g, cap', cur, hv, h1, h2, h3⟩
    · exact .inl h0
    · refine .inr ⟨g, cap', cur, hv, h1, ?_, h3⟩
      cases hv
      rw [hg g rfl]
      exact h2

def rblock (f t : ByteArray) (q : Nat) (s : Bool) : Obj := .cells #[.string f, .string t, .int .i64 q, .bool s] 63 (0, 0)

/-- Between a roll's taking out and its putting in. -/
def Ph (w : World) (c z A : Nat) (L : Rolls) (o : Obj) (W : World) : Prop :=
  ∃ ad cap, RC W 0 c z ad cap L ∧ Only [c] w W ∧ w.heap.size ≤ A ∧ A ≠ c ∧ (∀ g, ad = some ⟨g, 0, none⟩ → g ≠ A) ∧ W.heap[A]? = some o

theorem Ph.made {A : Nat} {L L' : Rolls} {o : Obj} {W W' : World} (h : Ph w c z A L o W) (m : Made 0 c z L' W W') : Ph w c z A L' o W' := by
  obtain ⟨ad, cap, h1, h2, h3, h4, h5, h6⟩ := h
  obtain ⟨ad', cap', m1, m2, m3⟩ := m
  have hA : A < W.heap.size := (Array.getElem?_eq_some_iff.1 h6).1
  refine ⟨ad', cap', m1, h2.trans m2 (fun i hi => .inl hi), h3, h4, fun g e => ?_, (m2.block A hA (by simpa using h4)).trans h6⟩
  have := m3 g 0 e
  omega

theorem Ph.quiet {A : Nat} {L : Rolls} {o : Obj} {W : World} (h : Ph w c z A L o W) (q : Nat) : Ph w c z A L o (W.drewN q) := by
  obtain ⟨ad, cap, h1, h2, h3, h4, h5, h6⟩ := h
  exact ⟨ad, cap, h1.kept (Only.quiet W q), h2.trans (Only.quiet W q) (by simp), h3, h4, h5, h6⟩

theorem Ph.turn {A : Nat} {L : Rolls} {o : Obj} {W : World} (h : Ph w c z A L o W) (t : ByteArray) :
    ∃ ad cap, RC ((W.setCell ⟨A, 0, none⟩ (.string t)).setCell ⟨A, 3, none⟩ (.bool true)) 0 c z ad cap L ∧ Only [c] w ((W.setCell ⟨A, 0, none⟩ (.string t)).setCell ⟨A, 3, none⟩ (.bool true)) := by
  obtain ⟨ad, cap, h1, h2, h3, h4, h5, h6⟩ := h
  refine ⟨ad, cap, h1.far ?_ (fun g e => ?_), (h2.setCell (.inr h3) _).setCell (.inr h3) _⟩
  · rw [Below.heap_setCell _ _ _ _ (fun x => h4 x.symm), Below.heap_setCell _ _ _ _ (fun x => h4 x.symm)]
  · rw [Below.heap_setCell _ _ _ _ (h5 g e), Below.heap_setCell _ _ _ _ (h5 g e)]

theorem Ph.cells {A : Nat} {L : Rolls} {f t : ByteArray} {q : Nat} {s : Bool} {W : World} (h : Ph w c z A L (rblock f t q s) W) :
    W.cell? ⟨A, 0, none⟩ = some (.string f) ∧ W.cell? ⟨A, 1, none⟩ = some (.string t) ∧ W.cell? ⟨A, 2, none⟩ = some (.int .i64 q) ∧ W.cell? ⟨A, 3, none⟩ = some (.bool s) ∧ W.frozen? ⟨A, 0, none⟩ = false ∧ W.frozen? ⟨A, 3, none⟩ = false := by
  obtain ⟨ad, cap, h1, h2, h3, h4, h5, h6⟩ := h
  unfold rblock at h6
  refine ⟨?_, ?_, ?_, ?_, ?_, ?_⟩
  · rw [cell_of_row W A 0 _ _ _ h6]; rfl
  · rw [cell_of_row W A 1 _ _ _ h6]; rfl
  · rw [cell_of_row W A 2 _ _ _ h6]; rfl
  · rw [cell_of_row W A 3 _ _ _ h6]; rfl
  · unfold World.frozen?
    simp [h6]
  · unfold World.frozen?
    simp [h6]

theorem Ph.start {V : World} {f t : ByteArray} {q : Nat} {s : Bool} (h : RC w 0 c z ad cap l) (hV : Only [] w V) : Ph w c z V.heap.size l (rblock f t q s) (V.alloc (.cells #[.string f, .string t, .int .i64 q, .bool s] 63)) := by
  have hc : c < w.heap.size := World.block_lt_of_cell? w _ h.c0
  have hs := hV.size
  refine ⟨ad, cap, h.kept (hV.alloc _), (hV.mono (by simp)).alloc _, hs, by omega, fun g e => ?_, heap_alloc_new V _⟩
  rcases h.row.2 with ⟨h0, _⟩ | ⟨g', cap', cur, hv, _⟩
  · rw [e] at h0; cases h0
  · have := owns_old h.row g (by rw [e]; rfl)
    omega

set_option maxRecDepth 100000 in
set_option maxHeartbeats 4000000 in
theorem rcall_go {g : Nat} (h : RC w 0 c z (some ⟨g, 0, none⟩) cap l) (f t : ByteArray) (hn : l.length ≤ 900000) (hts : t.size ≤ 1000000) (hk : okName t = true) (hat : isAt l f = true) (hft : f ≠ t)
    {p : Nat} (hp : p < l.length) (hpl : place l f = p) (hpf : l[p].1 = f) {L2 : Rolls} (hL2 : L2 = (if isAt (routS l p) t = true then routS (routS l p) (place (routS l p) t) else routS l p)) :
    Calls Tryz.prog 32 #[.pointer (some ⟨c, 0, none⟩), .string f, .string t] w fun e w' => e = .returned (.int .i64 0) ∧
      Made 0 c z (rinS L2 t ⟨l[p].2.t, l[p].2.p, true⟩) w w' := by
  have NM := Lib.hid (fun w1 => rname_c t hts w1)
  rw [hk] at NM
  have A1 := rat_c h f (by omega)
  rw [hat, hpl] at A1
  have HAT := Lib.hid (A1.mono (R' := fun e w' => e = .returned (.tuple #[.int .i64 p, .bool true]) ∧ Only [] w w') (fun e w' ⟨h1, q, h2⟩ => ⟨h1, by rw [h2]; exact Only.quiet w q⟩))
  have HR := Lib.hid h
  obtain ⟨x, hx⟩ : ∃ x, l[p].2 = x := ⟨_, rfl⟩
  obtain ⟨xt, xp, xs⟩ := x
  rw [hx]
  have HK : Hid (∀ V, Only [] w V → V.cell? ⟨c, 1, none⟩ = some (.slice (some ⟨g, 0, none⟩) l.length cap) ∧ V.cell? ⟨g, p * 4, none⟩ = some (.string f) ∧ V.cell? ⟨g, p * 4 + 1, none⟩ = some (.string xt) ∧ V.cell? ⟨g, p * 4 + 2, none⟩ = some (.int .i64 xp) ∧ V.cell? ⟨g, p * 4 + 3, none⟩ = some (.bool xs) ∧ l.length ≤ cap ∧ cap ≤ maxLen) := Lib.hid (by
    intro V hV
    have h1 := HR.out.kept hV
    obtain ⟨g', hg', hlc, hcm, g0, g1, g2, g3⟩ := h1.at hp
    cases hg'
    rw [hpf] at g0
    rw [hx] at g1 g2 g3
    exact ⟨h1.c1, g0, g1, g2, g3, hlc, hcm⟩)
  have hpl' : (p : Int) < (l.length : Int) := by omega
  have hne := not_toList hft
  simp only
  clear hk hat hpl hft hx hpf h A1
  go_enter Tryz.func32, Tryz.ntmps32
  go_wp2_with (first
    | (go_at_call 60; refine (NM.out _).mono ?_; rintro _ _ ⟨rfl, rfl⟩)
    | (go_at_call 61; refine HAT.out.mono ?_; rintro _ V ⟨rfl, hOV⟩; have HOV := Lib.hid hOV; obtain ⟨d1, d2, d3, d4, d5, d6, d7⟩ := HK.out V hOV; clear hOV))
  have P0 := Ph.start (f := f) (t := xt) (q := xp) (s := xs) HR.out HOV.out
  obtain ⟨adx, capx, hrx, _⟩ := id P0
  have HP0 := Lib.hid P0
  have HRX := Lib.hid hrx
  have hlen : (routS l p).length ≤ 1000000 := by unfold routS; simp only [List.length_append, List.length_take, List.length_drop]; omega
  clear P0 hrx d1 d2 d3 d4 d5
  generalize V.alloc (.cells #[.string f, .string xt, .int .i64 xp, .bool xs] 63) = V1 at *
  generalize V.heap.size = A at *
  refine (rout_c HRX.out hp (by omega)).mono ?_
  rintro _ W1 ⟨rfl, m1⟩
  have HP1 := Lib.hid (HP0.out.made (L' := routS l p) m1)
  clear m1
  obtain ⟨ad1, cap1, hr1, _⟩ := id HP1.out
  have AT1 := rat_c hr1 t hlen
  have HR1 := Lib.hid hr1
  clear hr1
  cases hb : isAt (routS l p) t with
  | false =>
    have HL : Hid (L2 = routS l p) := Lib.hid (by rw [hL2, hb]; rfl)
    rw [hb] at AT1
    clear hL2
    have HAT1 := Lib.hid AT1
    generalize place (routS l p) t = k2 at *
    clear AT1 hb
    go_wp2_with fail
    refine HAT1.out.mono ?_
    rintro _ _ ⟨rfl, q2, rfl⟩
    have HP2 := Lib.hid (HP1.out.quiet q2)
    obtain ⟨e0, e1, e2, e3, e4, e5⟩ := HP2.out.cells
    generalize W1.drewN q2 = V2 at *
    go_wp2_with fail
    obtain ⟨ad2, cap2, hr2, ho2⟩ := HP2.out.turn t
    refine (rin_p hr2 t xt xp true hlen).mono ?_
    rintro _ W3 ⟨rfl, m3⟩
    have HM := Lib.hid (m3.after ho2)
    clear m3 hr2 ho2
    go_wp2_with fail
    go_ret
    exact ⟨rfl, by rw [HL.out]; exact HM.out⟩
  | true =>
    have HL : Hid (L2 = routS (routS l p) (place (routS l p) t)) := Lib.hid (by rw [hL2, hb]; rfl)
    rw [hb] at AT1
    clear hL2
    have HAT1 := Lib.hid AT1
    have hk2 := isAt_lt hb
    have hlen2 : (routS (routS l p) (place (routS l p) t)).length ≤ 1000000 := by
      conv => lhs; unfold routS
      simp only [List.length_append, List.length_take, List.length_drop]
      omega
    generalize place (routS l p) t = k2 at *
    clear AT1 hb
    go_wp2_with fail
    refine HAT1.out.mono ?_
    rintro _ _ ⟨rfl, q2, rfl⟩
    have HR2 := Lib.hid (HR1.out.kept (Only.quiet W1 q2))
    have HP2 := Lib.hid (HP1.out.quiet q2)
    generalize W1.drewN q2 = V2 at *
    go_wp2_with fail
    refine (rout_c HR2.out hk2 hlen).mono ?_
    rintro _ W2 ⟨rfl, m2⟩
    have HP3 := Lib.hid (HP2.out.made (L' := routS (routS l p) k2) m2)
    clear m2
    obtain ⟨e0, e1, e2, e3, e4, e5⟩ := HP3.out.cells
    go_wp2_with fail
    obtain ⟨ad2, cap2, hr2, ho2⟩ := HP3.out.turn t
    refine (rin_p hr2 t xt xp true hlen2).mono ?_
    rintro _ W3 ⟨rfl, m3⟩
    have HM := Lib.hid (m3.after ho2)
    clear m3 hr2 ho2
    go_wp2_with fail
    go_ret
    exact ⟨rfl, by rw [HL.out]; exact HM.out⟩

/-- Call. -/
theorem rcall_p2 (h : RC w 0 c z ad cap l) (f t : ByteArray) (hn : l.length ≤ 900000) (hfs : f.size ≤ 1000000) (hts : t.size ≤ 1000000) :
    Calls Tryz.prog 32 #[.pointer (some ⟨c, 0, none⟩), .string f, .string t] w fun e w' => e = .returned (.int .i64 (rcallS l f t).1) ∧ RT c z ad w (rcallS l f t).2 w' := by
  unfold rcallS
  by_cases hk : okName t = false
  · rw [if_pos hk]
    exact (rcall_form h f t (by omega) hts hk).mono fun e w' ⟨h1, h2⟩ => ⟨h1, RT.same h h2⟩
  · have hk' : okName t = true := by simpa using hk
    rw [if_neg hk]
    cases ha : isAt l f with
    | false => exact (rcall_none h f t (by omega) hts hk' ha).mono fun e w' ⟨h1, h2⟩ => ⟨h1, RT.same h h2⟩
    | true =>
      obtain ⟨g, rfl, hp, e1, e2⟩ := at_some h ha
      rw [e1]
      by_cases hft : f = t
      · simp only [if_pos hft]
        subst hft
        exact (rcall_same h f (by omega) hfs hk' ha).mono fun e w' ⟨h1, h2⟩ => ⟨h1, RT.same h h2⟩
      · simp only [if_neg hft]
        exact (rcall_go h f t hn hts hk' ha hft hp rfl e2 rfl).mono fun e w' ⟨h1, h2⟩ => ⟨h1, h2.rt⟩

end
end Go.Proofs.YtaekieoingflaaaGreatDoor
