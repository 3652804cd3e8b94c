/-
  What Tear makes, bit by bit; a step of a range over a chest's map.
-/
import Derived.Test.YtaekieoingflaaaGreatDoorRoll9
namespace Go.Proofs.YtaekieoingflaaaGreatDoor
open Go.RowKit Go.Maps Go.Proofs.MapD Go.Proofs.Chest

theorem filter_add {α : Type} {p q : α → Bool} {e : α} : ∀ {l : List α}, l.Nodup → e ∈ l → q e = true → p e = false → (∀ x ∈ l, x ≠ e → q x = p x) → (l.filter q).Perm (e :: l.filter p)
  | [], _, he, _, _, _ => by cases he
  | a :: r, hd, he, hq, hp, hx => by
    rw [List.nodup_cons] at hd
    rcases List.mem_cons.1 he with rfl | he'
    · have : r.filter q = r.filter p := List.filter_congr (fun x hxr => hx x (List.mem_cons_of_mem _ hxr) (fun e1 => hd.1 (e1 ▸ hxr)))
      rw [List.filter_cons_of_pos hq, List.filter_cons_of_neg (by rw [hp]; decide), this]
    · have hae : a ≠ e := fun e1 => hd.1 (e1 ▸ he')
      have ih := filter_add hd.2 he' hq hp (fun x hxr => hx x (List.mem_cons_of_mem _ hxr))
      have hqa := hx a (by simp) hae
      cases hpa : p a with
      | true =>
        rw [List.filter_cons_of_pos (by rw [hqa]; exact hpa), List.filter_cons_of_pos hpa]
        exact (ih.cons a).trans (.swap e a _)
      | false =>
        rw [List.filter_cons_of_neg (by rw [hqa, hpa]; decide), List.filter_cons_of_neg (by rw [hpa]; decide)]
        exact ih

theorem wf_perm {room : Nat} {l l' : Rolls} (h : Wf ⟨room, l⟩) (hp : l.Perm l') : Wf ⟨room, l'⟩ := by
  refine ⟨(hp.map Prod.fst).nodup_iff.1 h.apart, fun e he => h.pressed e (hp.mem_iff.2 he), fun e he => h.names e (hp.mem_iff.2 he), ?_⟩
  have := h.room
  have e1 : total l = total l' := by unfold total; exact (hp.map _).sum_nat
  simp only at this ⊢
  omega

theorem total_sub {l l' : Rolls} (h : l.Sublist l') : total l ≤ total l' := by
  induction h with
  | slnil => exact Nat.le_refl _
  | cons a _ ih => unfold total at ih ⊢; simp only [List.map_cons, List.sum_cons]; omega
  | cons_cons a _ ih => unfold total at ih ⊢; simp only [List.map_cons, List.sum_cons]; omega

theorem wf_sub {room : Nat} {l l' : Rolls} (h : Wf ⟨room, l'⟩) (hs : l.Sublist l') : Wf ⟨room, l⟩ := by
  refine ⟨h.apart.sublist (hs.map _), fun e he => h.pressed e (hs.subset he), fun e he => h.names e (hs.subset he), ?_⟩
  have := h.room
  have := total_sub hs
  simp only at *
  omega

/-- What is torn off some rolls: the room, the rolls. -/
def tRoom (room : Nat) (l : Rolls) (n : Int) : Nat := room + (l.map fun e => e.2.t.size - stays e.2 n).sum
def tRolls (l : Rolls) (n : Int) : Rolls := l.filterMap fun e => (torn e.2 n).map fun r => (e.1, r)

theorem tear_eq (st : St) (n : Int) : tear st n = ⟨tRoom st.room st.l n, tRolls st.l n⟩ := rfl

theorem tRoom_perm {room : Nat} {l l' : Rolls} {n : Int} (h : l.Perm l') : tRoom room l n = tRoom room l' n := by
  unfold tRoom
  rw [(h.map fun e => e.2.t.size - stays e.2 n).sum_nat]

theorem tRoom_cons (room : Nat) (e : ByteArray × Rl) (l : Rolls) (n : Int) : tRoom room (e :: l) n = tRoom room l n + (e.2.t.size - stays e.2 n) := by
  unfold tRoom
  simp only [List.map_cons, List.sum_cons]
  omega

theorem tRolls_perm {l l' : Rolls} {n : Int} (h : l.Perm l') : (tRolls l n).Perm (tRolls l' n) := h.filterMap _

theorem tRolls_cons (e : ByteArray × Rl) (l : Rolls) (n : Int) : tRolls (e :: l) n = (match torn e.2 n with | none => tRolls l n | some r => (e.1, r) :: tRolls l n) := by
  unfold tRolls
  rw [List.filterMap_cons]
  cases torn e.2 n <;> rfl

theorem tRoom_wf {room : Nat} {l : Rolls} (h : Wf ⟨room, l⟩) (n : Int) : Wf ⟨tRoom room l n, tRolls l n⟩ := wf_tear h n

theorem wf_nodup_ab {w : World} {c room : Nat} {m : Option Nat} {L : List En} (h : RepL w c room m L) : L.Nodup := by
  have := h.wf.apart
  unfold ab at this
  simp only [List.map_map] at this
  exact List.Pairwise.of_map (S := (· ≠ ·)) _ (fun a b hab e1 => hab (by rw [e1])) this

/-- Which rolls have come. -/
def came (L : List En) (left : Lit → Bool) : List En := L.filter fun e => !left (kl e.nm)

theorem came_step {w : World} {c room : Nat} {m : Option Nat} {L : List En} (h : RepL w c room m L) {e : En} (he : e ∈ L) {left : Lit → Bool} (hl : left (kl e.nm) = true) :
    (came L (fun z => left z && !z.sameKey (kl e.nm))).Perm (e :: came L left) := by
  unfold came
  refine filter_add (wf_nodup_ab h) he ?_ ?_ ?_
  · simp only [hl, Bool.true_and, WideAt.sameKey_self (kl_key e.nm)]; rfl
  · simp only [hl]; rfl
  · intro x hx hxe
    have : (kl x.nm).sameKey (kl e.nm) = false := sameKey_ne (fun e1 => hxe (h.uniq hx he (kl_inj e1)))
    simp only [this, Bool.not_false, Bool.and_true]

theorem came_start {L : List En} : came L (Maps.has (D (nb L))) = [] := by
  unfold came
  rw [List.filter_eq_nil_iff]
  intro e he
  rw [has_nb ⟨e, he, rfl⟩]
  decide

theorem came_end {L : List En} {left : Lit → Bool} (h : ∀ k, left k = false) : came L left = L := by
  unfold came
  rw [List.filter_eq_self]
  intro e _
  rw [h]
  rfl

theorem came_sub (L : List En) (left : Lit → Bool) : (ab (came L left)).Sublist (ab L) := List.Sublist.map _ List.filter_sublist

theorem came_not {w : World} {c room : Nat} {m : Option Nat} {L : List En} (h : RepL w c room m L) {e : En} (he : e ∈ L) {left : Lit → Bool} (hl : left (kl e.nm) = true) : ∀ x ∈ came L left, x.nm ≠ e.nm := by
  intro x hx e1
  have h1 := List.mem_filter.1 hx
  have := h.uniq h1.1 he e1
  subst this
  rw [hl] at h1
  exact absurd h1.2 (by decide)

/-- A step of the range over a chest's map. -/
theorem wpList_next_ch {ops : Array Oper} {rest : List Oper} {o : Oper} {a : Act} {Q : Exit → Act → World → Prop} {w : World} (hg : o.guard = none) (it : Operand) (hop : o.op = Op.next it false) {b r n : Nat} {L : List En} (hN : (names (nb L)).Nodup) (hs : ∀ e ∈ L, e.nm.size ≤ maxLen) {left : Lit → Bool} {cnt : Nat}
    (hit : a.eval it = .pointer (some ⟨r, 0, none⟩)) (h : w.ranges Tryz.prog 9 ptrElem b r n (D (nb L)) left cnt)
    (hDone : (∀ kl, left kl = false) → wpList Tryz.prog ops Q rest (a.put o.dst (.tuple #[.bool false])) w)
    (hMore : ∀ (e : En), e ∈ L → left (kl e.nm) = true → ∀ (w' : World) (cnt' : Nat), w'.ranges Tryz.prog 9 ptrElem b r n (D (nb L)) (fun z => left z && !z.sameKey (kl e.nm)) cnt' → cnt' < cnt → w.grownBy w' (some r) → w'.heap.size = w.heap.size →
      (Instr.entry (.pointer (some ⟨r, 0, none⟩))).run Tryz.prog w' = .ok (.tuple #[.string e.nm, .pointer (some ⟨e.rb, 0, none⟩)]) w' → wpList Tryz.prog ops Q rest (a.put o.dst (.tuple #[.bool true, .string e.nm, .pointer (some ⟨e.rb, 0, none⟩)])) w') :
    wpList Tryz.prog ops Q (o :: rest) a w := by
  refine wpList_plain hg fun K' hK' => ?_
  unfold Oper.wp
  rcases h.next law o.type with ⟨_, hl, hrun⟩ | ⟨key, v, k0, y, w', cnt', hkey, hlk, hv, hat, hrun, hrg, hlt, hgr, hsz, hen⟩
  · simp [execOp, hop, hit, hrun, Result.andThen]
    exact hK' _ _ (hDone hl)
  · obtain ⟨x, hx, rfl⟩ := D_key (has_true_of_atKey hat)
    obtain ⟨e, he, rfl⟩ := List.mem_map.1 hx
    have hk1 : key = .string e.nm := law.inj hkey (Go.WideMaps.keyOf_string_mk (P := Tryz.prog) Tryz.underlying9 (hs e he))
    have hy : y.1 = .lit (.int .i64 e.rb) := by rw [← hat (.lit (.bool false)), D_at hN hx]
    obtain ⟨y1, y2⟩ := y
    simp only at hy
    subst hy
    have hv1 := ptr_inv hv
    subst hk1 hv1
    simp [execOp, hop, hit, hrun, Result.andThen]
    exact hK' _ _ (hMore e he hlk w' cnt' hrg hlt hgr hsz hen)

end Go.Proofs.YtaekieoingflaaaGreatDoor
