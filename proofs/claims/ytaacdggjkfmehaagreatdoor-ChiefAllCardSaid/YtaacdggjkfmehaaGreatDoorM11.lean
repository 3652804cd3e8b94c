/-
  Contracts of the program, and what they rest on.
-/
import Derived.Test.YtaacdggjkfmehaaGreatDoorM10
import Derived.StillTailTactics
namespace Go.Proofs.YtaacdggjkfmehaaGreatDoor
open Go.RowKit Go.Maps Go.Proofs.MapD Go.Proofs.Chest
theorem filter_add {α : Type} {p q : α → Bool} {e : α} : ∀ {l : List α}, l.Nodup → e ∈ l → q e = true → p e = false → (∀ x ∈ l, x ≠ e → q x = p x) → (l.filter q).Perm (e :: l.filter p)
  | [], _, he, _, _, _ => by cases he
  | a :: r, hd, he, hq, hp, hx => by
    rw [List.nodup_cons] at hd
    rcases List.mem_cons.1 he with rfl | he'
    · have : r.filter q = r.filter p := List.filter_congr (fun x hxr => hx x (List.mem_cons_of_mem _ hxr) (fun e1 => hd.1 (e1 ▸ hxr)))
      rw [List.filter_cons_of_pos hq, List.filter_cons_of_neg (by rw [hp]; decide), this]
    · have hae : a ≠ e := fun e1 => hd.1 (e1 ▸ he')
      have ih := filter_add hd.2 he' hq hp (fun x hxr => hx x (List.mem_cons_of_mem _ hxr))
      have hqa := hx a (by simp) hae
      cases hpa : p a with
      | true =>
        rw [List.filter_cons_of_pos (by rw [hqa]; exact hpa), List.filter_cons_of_pos hpa]
        exact (ih.cons a).trans (.swap e a _)
      | false =>
        rw [List.filter_cons_of_neg (by rw [hqa, hpa]; decide), List.filter_cons_of_neg (by rw [hpa]; decide)]
        exact ih
theorem wf_perm {room : Nat} {l l' : Rolls} (h : Wf ⟨room, l⟩) (hp : l.Perm l') : Wf ⟨room, l'⟩ := by
  refine ⟨(hp.map Prod.fst).nodup_iff.1 h.apart, fun e he => h.pressed e (hp.mem_iff.2 he), fun e he => h.names e (hp.mem_iff.2 he), ?_⟩
  have := h.room
  have e1 : total l = total l' := by unfold total; exact (hp.map _).sum_nat
  simp only at this ⊢
  omega
theorem total_sub {l l' : Rolls} (h : l.Sublist l') : total l ≤ total l' := by
  induction h with
  | slnil => exact Nat.le_refl _
  | cons a _ ih => unfold total at ih ⊢; simp only [List.map_cons, List.sum_cons]; omega
  | cons_cons a _ ih => unfold total at ih ⊢; simp only [List.map_cons, List.sum_cons]; omega
theorem wf_sub {room : Nat} {l l' : Rolls} (h : Wf ⟨room, l'⟩) (hs : l.Sublist l') : Wf ⟨room, l⟩ := by
  refine ⟨h.apart.sublist (hs.map _), fun e he => h.pressed e (hs.subset he), fun e he => h.names e (hs.subset he), ?_⟩
  have := h.room
  have := total_sub hs
  simp only at *
  omega
def tRoom (room : Nat) (l : Rolls) (n : Int) : Nat := room + (l.map fun e => e.2.t.size - stays e.2 n).sum
def tRolls (l : Rolls) (n : Int) : Rolls := l.filterMap fun e => (torn e.2 n).map fun r => (e.1, r)
theorem tRoom_perm {room : Nat} {l l' : Rolls} {n : Int} (h : l.Perm l') : tRoom room l n = tRoom room l' n := by
  unfold tRoom
  rw [(h.map fun e => e.2.t.size - stays e.2 n).sum_nat]
theorem tRoom_cons (room : Nat) (e : ByteArray × Rl) (l : Rolls) (n : Int) : tRoom room (e :: l) n = tRoom room l n + (e.2.t.size - stays e.2 n) := by
  unfold tRoom
  simp only [List.map_cons, List.sum_cons]
  omega
theorem tRolls_perm {l l' : Rolls} {n : Int} (h : l.Perm l') : (tRolls l n).Perm (tRolls l' n) := h.filterMap _
theorem tRolls_cons (e : ByteArray × Rl) (l : Rolls) (n : Int) : tRolls (e :: l) n = (match torn e.2 n with | none => tRolls l n | some r => (e.1, r) :: tRolls l n) := by
  unfold tRolls
  rw [List.filterMap_cons]
  cases torn e.2 n <;> rfl
theorem tRoom_wf {room : Nat} {l : Rolls} (h : Wf ⟨room, l⟩) (n : Int) : Wf ⟨tRoom room l n, tRolls l n⟩ := wf_tear h n
theorem wf_nodup_ab {w : World} {c room : Nat} {m : Option Nat} {L : List En} (h : RepL w c room m L) : L.Nodup := by
  have := h.wf.apart
  unfold ab at this
  simp only [List.map_map] at this
  exact List.Pairwise.of_map (S := (· ≠ ·)) _ (fun a b hab e1 => hab (by rw [e1])) this
def came (L : List En) (left : Lit → Bool) : List En := L.filter fun e => !left (kl e.nm)
theorem came_step {w : World} {c room : Nat} {m : Option Nat} {L : List En} (h : RepL w c room m L) {e : En} (he : e ∈ L) {left : Lit → Bool} (hl : left (kl e.nm) = true) :
    (came L (fun z => left z && !z.sameKey (kl e.nm))).Perm (e :: came L left) := by
  unfold came
  refine filter_add (wf_nodup_ab h) he ?_ ?_ ?_
  · simp only [hl, Bool.true_and, WideAt.sameKey_self (kl_key e.nm)]; rfl
  · simp only [hl]; rfl
  · intro x hx hxe
    have : (kl x.nm).sameKey (kl e.nm) = false := sameKey_ne (fun e1 => hxe (h.uniq hx he (kl_inj e1)))
    simp only [this, Bool.not_false, Bool.and_true]
theorem came_start {L : List En} : came L (Maps.has (D (nb L))) = [] := by
  unfold came
  rw [List.filter_eq_nil_iff]
  intro e he
  rw [has_nb ⟨e, he, rfl⟩]
  decide
theorem came_end {L : List En} {left : Lit → Bool} (h : ∀ k, left k = false) : came L left = L := by
  unfold came
  rw [List.filter_eq_self]
  intro e _
  rw [h]
  rfl
theorem came_sub (L : List En) (left : Lit → Bool) : (ab (came L left)).Sublist (ab L) := List.Sublist.map _ List.filter_sublist
theorem came_not {w : World} {c room : Nat} {m : Option Nat} {L : List En} (h : RepL w c room m L) {e : En} (he : e ∈ L) {left : Lit → Bool} (hl : left (kl e.nm) = true) : ∀ x ∈ came L left, x.nm ≠ e.nm := by
  intro x hx e1
  have h1 := List.mem_filter.1 hx
  have := h.uniq h1.1 he e1
  subst this
  rw [hl] at h1
  exact absurd h1.2 (by decide)
theorem wpList_next_ch {ops : Array Oper} {rest : List Oper} {o : Oper} {a : Act} {Q : Exit → Act → World → Prop} {w : World} (hg : o.guard = none) (it : Operand) (hop : o.op = Op.next it false) {b r n : Nat} {L : List En} (hN : (names (nb L)).Nodup) (hs : ∀ e ∈ L, e.nm.size ≤ maxLen) {left : Lit → Bool} {cnt : Nat}
    (hit : a.eval it = .pointer (some ⟨r, 0, none⟩)) (h : w.ranges Tryz.prog 9 ptrElem b r n (D (nb L)) left cnt)
    (hDone : (∀ kl, left kl = false) → wpList Tryz.prog ops Q rest (a.put o.dst (.tuple #[.bool false])) w)
    (hMore : ∀ (e : En), e ∈ L → left (kl e.nm) = true → ∀ (w' : World) (cnt' : Nat), w'.ranges Tryz.prog 9 ptrElem b r n (D (nb L)) (fun z => left z && !z.sameKey (kl e.nm)) cnt' → cnt' < cnt → w.grownBy w' (some r) → w'.heap.size = w.heap.size →
      (Instr.entry (.pointer (some ⟨r, 0, none⟩))).run Tryz.prog w' = .ok (.tuple #[.string e.nm, .pointer (some ⟨e.rb, 0, none⟩)]) w' → wpList Tryz.prog ops Q rest (a.put o.dst (.tuple #[.bool true, .string e.nm, .pointer (some ⟨e.rb, 0, none⟩)])) w') :
    wpList Tryz.prog ops Q (o :: rest) a w := by
  refine wpList_plain hg fun K' hK' => ?_
  unfold Oper.wp
  rcases h.next law o.type with ⟨_, hl, hrun⟩ | ⟨key, v, k0, y, w', cnt', hkey, hlk, hv, hat, hrun, hrg, hlt, hgr, hsz, hen⟩
  · simp [execOp, hop, hit, hrun, Result.andThen]
    exact hK' _ _ (hDone hl)
  · obtain ⟨x, hx, rfl⟩ := D_key (has_true_of_atKey hat)
    obtain ⟨e, he, rfl⟩ := List.mem_map.1 hx
    have hk1 : key = .string e.nm := law.inj hkey (Go.WideMaps.keyOf_string_mk (P := Tryz.prog) Tryz.underlying9 (hs e he))
    have hy : y.1 = .lit (.int .i64 e.rb) := by rw [← hat (.lit (.bool false)), D_at hN hx]
    obtain ⟨y1, y2⟩ := y
    simp only at hy
    subst hy
    have hv1 := ptr_inv hv
    subst hk1 hv1
    simp [execOp, hop, hit, hrun, Result.andThen]
    exact hK' _ _ (hMore e he hlk w' cnt' hrg hlt hgr hsz hen)
end Go.Proofs.YtaacdggjkfmehaaGreatDoor
namespace Go.Proofs.YtaacdggjkfmehaaGreatDoor
open Go.RowKit Go.Maps Go.Proofs.MapD Go.Proofs.Chest
theorem perm_map_inv {α β : Type} {f : α → β} : ∀ {l1 l2 : List β}, l1.Perm l2 → ∀ L : List α, L.map f = l1 → ∃ L', L.Perm L' ∧ L'.map f = l2 := by
  intro l1 l2 h
  induction h with
  | nil => intro L hL; exact ⟨L, .refl _, hL⟩
  | cons x _ ih =>
    intro L hL
    cases L with
    | nil => cases hL
    | cons a r =>
      rw [List.map_cons, List.cons.injEq] at hL
      obtain ⟨L', h1, h2⟩ := ih r hL.2
      exact ⟨a :: L', h1.cons a, by rw [List.map_cons, h2, hL.1]⟩
  | swap x y l =>
    intro L hL
    match L, hL with
    | a :: b :: r, hL =>
      simp only [List.map_cons, List.cons.injEq] at hL
      exact ⟨b :: a :: r, .swap _ _ _, by simp only [List.map_cons, hL.1, hL.2.1, hL.2.2]⟩
  | trans _ _ ih1 ih2 =>
    intro L hL
    obtain ⟨L1, h1, h2⟩ := ih1 L hL
    obtain ⟨L2, h3, h4⟩ := ih2 L1 h2
    exact ⟨L2, h1.trans h3, h4⟩
theorem ab_perm {L L' : List En} (h : L.Perm L') : (ab L).Perm (ab L') := by unfold ab; exact h.map _
theorem nb_perm {L L' : List En} (h : L.Perm L') : (nb L).Perm (nb L') := by unfold nb; exact h.map _
section
variable {w w' : World} {c room room' : Nat} {m : Option Nat} {L : List En}
theorem RepL.perm (h : RepL w c room m L) {L' : List En} (hp : L.Perm L') : RepL w c room m L' := by
  refine ⟨h.ch, ?_, fun e he => h.ens e (hp.mem_iff.2 he), ⟨h.apart.cm, fun e he => h.apart.ce e (hp.mem_iff.2 he), fun b hb e he => h.apart.me b hb e (hp.mem_iff.2 he), fun e he => h.apart.ee e (hp.mem_iff.2 he), ?_⟩, wf_perm h.wf (ab_perm hp)⟩
  · have hm := h.map
    unfold MapAt at hm ⊢
    cases m with
    | none =>
      have h0 : nb L = [] := hm
      have : L = [] := by unfold nb at h0; exact List.map_eq_nil_iff.1 h0
      subst this
      have := hp.nil_eq
      subst this
      exact h0
    | some b =>
      have h1 : w.ownsMap Tryz.prog 9 ptrElem b (nb L).length (D (nb L)) := hm
      rw [D_perm (names_nb h) (nb_perm hp), (nb_perm hp).length_eq] at h1
      exact h1
  · exact (hp.pairwise_iff (fun {a b} hab k hk hk' => hab k hk' hk)).1 h.apart.ll
theorem RepL.setRoom (h : RepL w c room m L) (hc : ChAt w' c room' m) (hk : ∀ k, k < w.heap.size → k ≠ c → w'.heap[k]? = w.heap[k]?) (hw : Wf ⟨room', ab L⟩) : RepL w' c room' m L := by
  refine ⟨hc, MapN.kept h.map (fun b hb => ?_), fun e he => (h.ens e he).kept (fun k hke => hk k (h.elt he hke) (fun e1 => h.apart.ce e he (e1 ▸ hke))), h.apart, hw⟩
  subst hb
  exact hk b h.map.lt (fun e1 => h.apart.cm b rfl e1.symm)
end
theorem ranges_kept {w w' : World} {b r n cnt : Nat} {N : List NB} {left : Lit → Bool} (h : w.ranges Tryz.prog 9 ptrElem b r n (D N) left cnt) (hb : w'.heap[b]? = w.heap[b]?) (hr : w'.heap[r]? = w.heap[r]?) :
    w'.ranges Tryz.prog 9 ptrElem b r n (D N) left cnt := by
  obtain ⟨es, clock, since, seen, c0, h1, F, hs, hD, h2, rest⟩ := h
  exact ⟨es, clock, since, seen, c0, hb.trans h1, F, hs, hD, hr.trans h2, rest⟩
def TearRel (w : World) (room : Nat) (L : List En) (n : Int) (b r N dB : Nat) (wr : World) : Prop :=
  ∃ (left : Lit → Bool) (cnt : Nat) (md : Option Nat) (Ld : List En), wr.ranges Tryz.prog 9 ptrElem b r N (D (nb L)) left cnt ∧ RepL wr dB (tRoom room (ab (came L left)) n) md Ld ∧
    (ab Ld).Perm (tRolls (ab (came L left)) n) ∧ (∀ k ∈ foots dB md Ld, w.heap.size ≤ k ∧ k ≠ r) ∧ Below w.heap.size w wr ∧ r < wr.heap.size
theorem tear_skip {w w1 w' : World} {c room : Nat} {m : Option Nat} {L : List En} (h : RepL w c room m L) {e : En} (he : e ∈ L) {n : Int} {b r N dB cnt1 rd' : Nat} {left : Lit → Bool} (hl : left (kl e.nm) = true) {md : Option Nat} {Ld : List En}
    (hrg : w1.ranges Tryz.prog 9 ptrElem b r N (D (nb L)) (fun z => left z && !z.sameKey (kl e.nm)) cnt1) (hD : RepL w1 dB (tRoom room (ab (came L left)) n) md Ld) (hp : (ab Ld).Perm (tRolls (ab (came L left)) n)) (hf : ∀ k ∈ foots dB md Ld, w.heap.size ≤ k ∧ k ≠ r)
    (hb : Below w.heap.size w w1) (hr : r < w1.heap.size) (hbw : b < w.heap.size) (hrd : rd' = tRoom room (ab (came L left)) n + (e.r.t.size - stays e.r n)) (hc : ChAt w' dB rd' md) (hk : ∀ k, k < w1.heap.size → k ≠ dB → w'.heap[k]? = w1.heap[k]?) (ho : Only [dB] w1 w') :
    w'.ranges Tryz.prog 9 ptrElem b r N (D (nb L)) (fun z => left z && !z.sameKey (kl e.nm)) cnt1 ∧ RepL w' dB rd' md Ld ∧ rd' = tRoom room (ab (came L (fun z => left z && !z.sameKey (kl e.nm)))) n ∧ Below w.heap.size w w' ∧ r < w'.heap.size := by
  have hd0 := hf dB (by simp [foots])
  have hst := came_step h he hl
  have hroom : rd' = tRoom room (ab (came L (fun z => left z && !z.sameKey (kl e.nm)))) n := by
    have h0 : tRoom room (ab (came L (fun z => left z && !z.sameKey (kl e.nm)))) n = tRoom room ((e.nm, e.r) :: ab (came L left)) n := tRoom_perm (ab_perm hst)
    rw [h0, tRoom_cons, hrd]
  have hwf : Wf ⟨rd', ab Ld⟩ := by
    have h1 := tRoom_wf (wf_sub h.wf (came_sub L (fun z => left z && !z.sameKey (kl e.nm)))) n
    rw [← hroom] at h1
    have h2 : (tRolls (ab (came L (fun z => left z && !z.sameKey (kl e.nm)))) n).Perm (tRolls ((e.nm, e.r) :: ab (came L left)) n) := tRolls_perm (ab_perm hst)
    have h3 := wf_perm h1 h2
    rw [tRolls_cons] at h3
    have h4 : Wf ⟨rd', tRolls (ab (came L left)) n⟩ := by
      cases ht : torn e.r n with
      | none => rw [ht] at h3; exact h3
      | some x => rw [ht] at h3; exact wf_sub h3 (List.sublist_cons_self _ _)
    exact wf_perm h4 hp.symm
  refine ⟨ranges_kept hrg (hk b (Nat.lt_of_lt_of_le hbw hb.size) (by omega)) (hk r hr (fun e1 => hd0.2 e1.symm)), hD.setRoom hc hk hwf, hroom, ?_, Nat.lt_of_lt_of_le hr ho.size⟩
  exact hb.trans (ho.below hb.size (by intro i hi; simp at hi; omega))
theorem tear_skip_rel {w w' : World} {c room : Nat} {m : Option Nat} {L : List En} (h : RepL w c room m L) {e : En} (he : e ∈ L) {n : Int} {b r N dB cnt1 rd' : Nat} {left : Lit → Bool} (hl : left (kl e.nm) = true) {md : Option Nat} {Ld : List En}
    (hp : (ab Ld).Perm (tRolls (ab (came L left)) n)) (hf : ∀ k ∈ foots dB md Ld, w.heap.size ≤ k ∧ k ≠ r) (hn : torn e.r n = none)
    (hs : w'.ranges Tryz.prog 9 ptrElem b r N (D (nb L)) (fun z => left z && !z.sameKey (kl e.nm)) cnt1 ∧ RepL w' dB rd' md Ld ∧ rd' = tRoom room (ab (came L (fun z => left z && !z.sameKey (kl e.nm)))) n ∧ Below w.heap.size w w' ∧ r < w'.heap.size) :
    TearRel w room L n b r N dB w' := by
  obtain ⟨h1, h2, h3, h4, h5⟩ := hs
  subst h3
  refine ⟨_, cnt1, md, Ld, h1, h2, ?_, hf, h4, h5⟩
  have h6 : (tRolls (ab (came L (fun z => left z && !z.sameKey (kl e.nm)))) n).Perm (tRolls ((e.nm, e.r) :: ab (came L left)) n) := tRolls_perm (ab_perm (came_step h he hl))
  rw [tRolls_cons] at h6
  simp only [hn] at h6
  exact hp.trans h6.symm
theorem tear_put_rel {w w3 w4 w6 : World} {c room : Nat} {m : Option Nat} {L : List En} (h : RepL w c room m L) {e : En} (he : e ∈ L) {n : Int} {b r N dB cnt1 rd' : Nat} {left : Lit → Bool} (hl : left (kl e.nm) = true) {md : Option Nat} {Ld : List En}
    (hp : (ab Ld).Perm (tRolls (ab (came L left)) n)) (hf : ∀ k ∈ foots dB md Ld, w.heap.size ≤ k ∧ k ≠ r) (hbw : b < w.heap.size)
    (hs : w3.ranges Tryz.prog 9 ptrElem b r N (D (nb L)) (fun z => left z && !z.sameKey (kl e.nm)) cnt1 ∧ RepL w3 dB rd' md Ld ∧ rd' = tRoom room (ab (came L (fun z => left z && !z.sameKey (kl e.nm)))) n ∧ Below w.heap.size w w3 ∧ r < w3.heap.size)
    {v' : Value} {S : Nat} (hS : stays e.r n = S) (hn : 0 < S ∨ e.r.s = true) (ht4 : Text w4 v' (e.r.t.extract 0 S)) (hb4 : Below w3.heap.size w3 w4) (hl4 : ∀ g, v'.ownBlock = some g → w3.heap.size ≤ g)
    {b3 : Nat} (hc6 : ChAt w6 dB rd' (some b3)) (hm6 : MapN w6 (some b3) ((e.nm, w4.heap.size) :: nb Ld)) (ho6 : Only (dB :: md.toList) (w4.alloc (.cells #[v', .int .i64 (S : Int), .bool true] 87)) w6) (hb3 : md = some b3 ∨ (md = none ∧ b3 = w4.heap.size + 1)) :
    TearRel w room L n b r N dB w6 ∧ w6.ranges Tryz.prog 9 ptrElem b r N (D (nb L)) (fun z => left z && !z.sameKey (kl e.nm)) cnt1 := by
  obtain ⟨h1, h2, h3, h4, h5⟩ := hs
  subst hS
  have hst := came_step h he hl
  have hd0 := hf dB (by simp [foots])
  have hmd : ∀ k, md = some k → w.heap.size ≤ k ∧ k ≠ r := fun k hk => hf k (by simp [foots, hk])
  have h34 := hb4.size
  have hto : torn e.r n = some ⟨e.r.t.extract 0 (stays e.r n), stays e.r n, true⟩ := by unfold torn; rw [if_pos hn]
  have h6 : (tRolls (ab (came L (fun z => left z && !z.sameKey (kl e.nm)))) n).Perm ((e.nm, ⟨e.r.t.extract 0 (stays e.r n), stays e.r n, true⟩) :: tRolls (ab (came L left)) n) := by
    have : (tRolls (ab (came L (fun z => left z && !z.sameKey (kl e.nm)))) n).Perm (tRolls ((e.nm, e.r) :: ab (came L left)) n) := tRolls_perm (n := n) (ab_perm hst)
    rw [tRolls_cons] at this
    simp only [hto] at this
    exact this
  have hold : ∀ k, k < w3.heap.size → k ≠ dB → md ≠ some k → w6.heap[k]? = w3.heap[k]? := fun k hk hkd hkm => by
    rw [ho6.block k (by simp; omega) (fun hi => by rcases List.mem_cons.1 hi with h7 | h7; exact hkd h7; exact hkm (Option.mem_toList.1 h7))]
    rw [Below.heap_alloc _ _ _ (by omega), hb4.block k hk]
  have h46 : w4.heap.size + 1 ≤ w6.heap.size := by have := ho6.size; simpa using this
  have hlt4 : ∀ g, v'.ownBlock = some g → g < w4.heap.size := fun g hg => ht4.lt hg
  have hdl : dB < w3.heap.size := h2.ch.lt
  have hml : ∀ k, md = some k → k < w3.heap.size := fun k hk => by subst hk; exact h2.map.lt
  have k6 : ∀ k, k = w4.heap.size ∨ (w3.heap.size ≤ k ∧ k < w4.heap.size) → w6.heap[k]? = (w4.alloc (.cells #[v', .int .i64 ((stays e.r n : Nat) : Int), .bool true] 87)).heap[k]? := fun k hk => by
    refine ho6.block k (by simp; omega) (fun hi => ?_)
    rcases List.mem_cons.1 hi with h7 | h7
    · omega
    · have := hml k (Option.mem_toList.1 h7); omega
  have kr := (k6 w4.heap.size (.inl rfl)).trans (heap_alloc_new w4 _)
  have hR := RepL.cons h2 (e0 := ⟨e.nm, w4.heap.size, v', ⟨e.r.t.extract 0 (stays e.r n), stays e.r n, true⟩⟩) (room' := rd') (m' := some b3) (w' := w6) hc6 hm6 ⟨⟨⟨?_, ?_, ?_⟩, ?_, ?_, ?_⟩, ?_⟩ hold ?_ ?_ ?_ ?_
  · obtain ⟨h8, h9⟩ := hR
    have hrg6 : w6.ranges Tryz.prog 9 ptrElem b r N (D (nb L)) (fun z => left z && !z.sameKey (kl e.nm)) cnt1 :=
      ranges_kept h1 (hold b (Nat.lt_of_lt_of_le hbw h4.size) (by omega) (fun e1 => by have := hmd b e1; omega)) (hold r h5 (fun e1 => hd0.2 e1.symm) (fun e1 => (hmd r e1).2 rfl))
    refine ⟨?_, hrg6⟩
    subst h3
    refine ⟨_, cnt1, some b3, _, hrg6, h8, ?_, ?_, ?_, by omega⟩
    · have : ab (⟨e.nm, w4.heap.size, v', ⟨e.r.t.extract 0 (stays e.r n), stays e.r n, true⟩⟩ :: Ld) = (e.nm, ⟨e.r.t.extract 0 (stays e.r n), stays e.r n, true⟩) :: ab Ld := rfl
      rw [this]
      exact (hp.cons _).trans h6.symm
    · intro k hk
      rcases h9 k hk with h10 | h10
      · exact hf k h10
      · exact ⟨Nat.le_trans h4.size h10, by omega⟩
    · refine h4.trans ⟨?_, ?_, ?_, by omega, fun k hk => ?_⟩
      · rw [ho6.os]; exact hb4.os
      · rw [ho6.tape]; exact hb4.tape
      · rw [ho6.output]; exact hb4.output
      · exact hold k (Nat.lt_of_lt_of_le hk h4.size) (by omega) (fun e1 => by have := hmd k e1; omega)
  · unfold World.cell?; rw [kr]; rfl
  · unfold World.cell?; rw [kr]; rfl
  · unfold World.cell?; rw [kr]; rfl
  · unfold World.frozen?; rw [kr]; rfl
  · unfold World.frozen?; rw [kr]; rfl
  · unfold World.frozen?; rw [kr]; rfl
  · refine ht4.kept (fun g hg => ?_)
    rw [k6 g (.inr ⟨hl4 g hg, hlt4 g hg⟩)]
    exact Below.heap_alloc _ _ _ (hlt4 g hg)
  · intro k hk
    rcases foot_mem hk with h7 | h7
    · simp only at h7; omega
    · exact hl4 k h7
  · rcases hb3 with h7 | ⟨_, h7⟩
    · exact .inl h7
    · refine .inr ⟨b3, rfl, by omega, fun hk => ?_⟩
      rcases foot_mem hk with h8 | h8
      · simp only at h8; omega
      · have := hlt4 b3 h8; omega
  · intro h7
    have := hlt4 _ h7
    simp only at this
    omega
  · have h7 := tRoom_wf (wf_sub h.wf (came_sub L (fun z => left z && !z.sameKey (kl e.nm)))) n
    rw [← h3] at h7
    exact wf_perm (wf_perm h7 h6) (hp.symm.cons _)
end Go.Proofs.YtaacdggjkfmehaaGreatDoor
namespace Go.Proofs.YtaacdggjkfmehaaGreatDoor
open Go.RowKit Go.Maps Go.Proofs.MapD Go.Proofs.Chest
def Torn (w : World) (st : St) (w' : World) : Prop := ∃ F', Rep w' w.heap.size F' st ∧ (∀ k ∈ F', w.heap.size ≤ k) ∧ Below w.heap.size w w'
set_option maxRecDepth 100000 in
set_option maxHeartbeats 8000000 in
theorem tear_none {w : World} {c room : Nat} {L : List En} (h : RepL w c room none L) (n : Int) :
    Calls Tryz.prog 15 #[.pointer (some ⟨c, 0, none⟩), .int .i64 n] w fun x w' => x = .returned (.pointer (some ⟨w.heap.size, 0, none⟩)) ∧ Torn w (tear ⟨room, ab L⟩ n) w' := by
  have h0 : nb L = [] := h.map
  have hL : L = [] := by unfold nb at h0; exact List.map_eq_nil_iff.1 h0
  subst hL
  rw [show tear ⟨room, ab []⟩ n = ⟨room, []⟩ from rfl]
  have hwf : Wf ⟨room, []⟩ := h.wf
  obtain ⟨⟨c0, c1⟩, _, _⟩ := h.ch
  have d1 : (w.alloc (.cells #[.int .i64 room, .map none] 64)).cell? ⟨c, 1, none⟩ = some (.map none) := by rw [World.cell?_alloc_lt _ _ _ (World.block_lt_of_cell? w _ c1)]; exact c1
  have hrg := run_range_nilMap (P := Tryz.prog) (w.alloc (.cells #[.int .i64 room, .map none] 64)) 62 9 83 Tryz.underlying62
  have hnx : ∀ ty, (Instr.next (.pointer (some ⟨(w.alloc (.cells #[.int .i64 room, .map none] 64)).heap.size, 0, none⟩)) false ty).run Tryz.prog ((w.alloc (.cells #[.int .i64 room, .map none] 64)).alloc (.mapIter none 0 #[] 0)) = _ := fun ty => run_next_nilMap _ ty 0 0 #[]
  have e1 : (w.alloc (.cells #[.int .i64 room, .map none] 64)).heap.size = w.heap.size + 1 := by simp
  rw [e1] at hrg hnx
  have HW := Lib.hid hwf
  clear h hwf e1 h0
  go_enter Tryz.func15, Tryz.ntmps15
  go_wp2
  refine wp_loop_rounds 1 ?_
  rw [rounds_succ]
  go_wp2
  go_ret
  refine ⟨rfl, [w.heap.size], ⟨none, [], ⟨⟨⟨?_, ?_⟩, ?_, ?_⟩, rfl, by simp, ⟨by simp, by simp, by simp, by simp, .nil⟩, HW.out⟩, rfl, rfl⟩, by simp, ((Below.refl _ _).alloc (Nat.le_refl _) _).alloc (by simp) _⟩ <;> go_simp
set_option maxRecDepth 100000 in
set_option maxHeartbeats 8000000 in
theorem tear_some {w : World} {c room b : Nat} {L : List En} (h : RepL w c room (some b) L) (hL : L.length ≤ 1000000) (n : Int) :
    Calls Tryz.prog 15 #[.pointer (some ⟨c, 0, none⟩), .int .i64 n] w fun x w' => x = .returned (.pointer (some ⟨w.heap.size, 0, none⟩)) ∧ Torn w (tear ⟨room, ab L⟩ n) w' := by
  have hwf := h.wf
  have HH := Lib.hid h
  have hown := (h.map : w.ownsMap Tryz.prog 9 ptrElem b (nb L).length (D (nb L))).alloc (.cells #[.int .i64 room, .map none] 64)
  have hroom : room ≤ 1048576 := by have := hwf.room; simp only at this; omega
  have hbw : b < w.heap.size := h.map.lt
  obtain ⟨⟨c0, c1⟩, _, _⟩ := h.ch
  have d1 : (w.alloc (.cells #[.int .i64 room, .map none] 64)).cell? ⟨c, 1, none⟩ = some (.map (some b)) := by rw [World.cell?_alloc_lt _ _ _ (World.block_lt_of_cell? w _ c1)]; exact c1
  have hD0 : RepL (w.alloc (.cells #[.int .i64 room, .map none] 64)) w.heap.size room none [] := by
    refine ⟨⟨⟨?_, ?_⟩, ?_, ?_⟩, rfl, by simp, ⟨by simp, by simp, by simp, by simp, .nil⟩, wf_new room hroom⟩ <;> go_simp
  have HD0 := Lib.hid hD0
  have hn10 : ∀ e ∈ L, e.nm.size ≤ maxLen := fun e he => by
    have := h.wf.names (e.nm, e.r) (List.mem_map.2 ⟨e, he, rfl⟩)
    unfold okName at this
    simp only [Bool.and_eq_true, decide_eq_true_eq] at this
    unfold maxLen
    omega
  have HNS := Lib.hid hn10
  clear h hwf hD0 hn10
  go_enter Tryz.func15, Tryz.ntmps15
  go_wp2_with (at_range; refine wpList_range_own _ rfl _ 62 rfl 9 83 law Tryz.underlying62 ptrElem b (nb L).length (D (nb L)) rfl hown ?_; intro w0 hrg0 hg0 hs0)
  go_frame
  have e1 : (w.alloc (.cells #[.int .i64 room, .map none] 64)).heap.size = w.heap.size + 1 := by simp
  rw [e1] at hrg0 hs0
  obtain ⟨dB, hdB⟩ : ∃ dB, w.heap.size = dB := ⟨_, rfl⟩
  obtain ⟨r, hr⟩ : ∃ r, w.heap.size + 1 = r := ⟨_, rfl⟩
  have HR : Hid (w.heap.size = dB ∧ w.heap.size + 1 = r) := Lib.hid ⟨hdB, hr⟩
  have hD1 : RepL w0 dB room none [] := by
    rw [← hdB]
    exact HD0.out.kept (fun k hk => hg0.block k (HD0.out.lt k hk) (by simp))
  have hb0 : Below w.heap.size w w0 := ((Below.refl _ _).alloc (Nat.le_refl _) (.cells #[.int .i64 room, .map none] 64)).grown hg0 (by simp) (by simp)
  rw [e1, hr, hdB]
  rw [hr] at hrg0 hs0
  have hstart : TearRel w room L n b r (nb L).length dB w0 := by
    refine ⟨_, _, none, [], hrg0, ?_, ?_, ?_, hb0, by omega⟩
    · rw [came_start]; exact hD1
    · rw [came_start]; exact .refl _
    · intro k hk
      have : k = dB := by simpa [foots] using hk
      omega
  have HST := Lib.hid hstart
  have hdr : dB ≠ r := by omega
  clear hdB hr hD1 hb0 hrg0 hg0 hs0 hstart hown c0 c1 d1 e1
  go_loopw [8] (fun _ wr => TearRel w room L n b r (nb L).length dB wr) (fun _ wr => wr.rangeLeft b r)
  case atStart => exact HST.out
  case round =>
    obtain ⟨left, cnt, md, Ld, hrg, hD, hp, hf, hb, hrl⟩ := hrel
    have HX := Lib.hid (And.intro hrg (And.intro hD (And.intro hp (And.intro hf (And.intro hb hrl)))))
    clear hrg hD hp hf hb hrl
    go_wp2_with (at_next; refine wpList_next_ch rfl _ rfl (names_nb HH.out) HNS.out rfl HX.out.1 ?_ ?_)
    · intro hl0
      go_wp2
      go_ret
      obtain ⟨hrg, hD, hp, hf, hb, hrl⟩ := HX.out
      rw [came_end hl0] at hD hp
      obtain ⟨L', hp', hab⟩ := perm_map_inv hp Ld rfl
      refine ⟨?_, foots dB md L', ⟨md, L', ?_, hab.symm, ?_⟩, ?_, hb⟩
      · rw [HR.out.1]; rfl
      · rw [HR.out.1]; exact hD.perm hp'
      · rw [HR.out.1]
      · intro k hk
        refine (hf k ?_).1
        unfold foots at hk ⊢
        rcases List.mem_cons.1 hk with h1 | h1
        · rw [h1]; simp
        · rcases List.mem_append.1 h1 with h1 | h1
          · exact List.mem_cons_of_mem _ (List.mem_append_left _ h1)
          · obtain ⟨x, hx, hkx⟩ := List.mem_flatMap.1 h1
            exact List.mem_cons_of_mem _ (List.mem_append_right _ (List.mem_flatMap.2 ⟨x, hp'.mem_iff.2 hx, hkx⟩))
    · intro e he hle w1 cnt1 hrg1 hlt hg1 hs1 hen
      have hgb : Below w.heap.size w w1 := HX.out.2.2.2.2.1.grown hg1 HX.out.2.2.2.2.1.size (fun k hk => by cases hk; have := HR.out; omega)
      have hE : EnAt w1 e := (HH.out.ens e he).kept (fun k hk => hgb.block k (HH.out.elt he hk))
      have hD1 : RepL w1 dB (tRoom room (ab (came L left)) n) md Ld := HX.out.2.1.kept (fun k hk => hg1.block k (HX.out.2.1.lt k hk) (fun e2 => (HX.out.2.2.2.1 k hk).2 (Option.some.inj e2)))
      have hpr : e.r.p ≤ e.r.t.size := HH.out.wf.pressed (e.nm, e.r) (List.mem_map.2 ⟨e, he, rfl⟩)
      have hts : e.r.t.size ≤ total (ab L) := total_le (e := (e.nm, e.r)) (List.mem_map.2 ⟨e, he, rfl⟩ : (e.nm, e.r) ∈ ab L)
      have hrm := HH.out.wf.room
      simp only at hrm
      have hsz : e.r.t.size ≤ 1048576 := by omega
      have hst := stays_le e.r n hpr
      have hrd : tRoom room (ab (came L left)) n + (e.r.t.size - stays e.r n) ≤ 1048576 := by
        have h1 := (tRoom_wf (wf_sub HH.out.wf (came_sub L (fun z => left z && !z.sameKey (kl e.nm)))) n).room
        have h2 : tRoom room (ab (came L (fun z => left z && !z.sameKey (kl e.nm)))) n = tRoom room ((e.nm, e.r) :: ab (came L left)) n := tRoom_perm (ab_perm (came_step HH.out he hle))
        simp only at h1
        rw [h2, tRoom_cons] at h1
        simp only at h1
        omega
      have hnn : e.nm.size ≤ 10 := by
        have := HH.out.wf.names (e.nm, e.r) (List.mem_map.2 ⟨e, he, rfl⟩)
        unfold okName at this
        simp only [Bool.and_eq_true, decide_eq_true_eq] at this
        exact this.1.2
      have HS := Lib.hid (stays_p hE hpr hsz n)
      have hLd : Ld.length ≤ 1000000 := by
        have h1 := HX.out.2.2.1.length_eq
        unfold tRolls at h1
        have h2 := List.length_filterMap_le (fun e : ByteArray × Rl => (torn e.2 n).map fun r => (e.1, r)) (ab (came L left))
        have h3 : (ab (came L left)).length ≤ L.length := by unfold ab came; rw [List.length_map]; exact List.length_filter_le _ _
        rw [show (ab Ld).length = Ld.length by unfold ab; rw [List.length_map]] at h1
        omega
      have hnot : ∀ x ∈ Ld, x.nm ≠ e.nm := fun x hx e2 => by
        have h1 : (x.nm, x.r) ∈ tRolls (ab (came L left)) n := HX.out.2.2.1.mem_iff.1 (List.mem_map.2 ⟨x, hx, rfl⟩)
        have h2 := (names_tear (ab (came L left)) n).subset (List.mem_map.2 ⟨_, h1, rfl⟩)
        obtain ⟨y, hy, h3⟩ := List.mem_map.1 h2
        obtain ⟨z, hz, rfl⟩ := List.mem_map.1 hy
        exact came_not HH.out he hle z hz (h3.trans e2)
      obtain ⟨ad, cap, hv⟩ := text_shape hE.2
      have HEV := Lib.hid hv
      have HT : Hid (Text w1 (.slice ad e.r.t.size cap) e.r.t) := Lib.hid (by rw [← hv]; exact hE.2)
      obtain ⟨⟨r0, r1, r2⟩, _, _, _⟩ := hE.1
      rw [hv] at r0
      have hdw : dB < w1.heap.size := hD1.ch.lt
      obtain ⟨⟨d0, d1⟩, f0, f1⟩ := hD1.ch
      have hrb : dB ≠ e.rb := by
        have h1 := HH.out.elt he (rb_mem e)
        have := HR.out
        omega
      obtain ⟨S, hS⟩ : ∃ S, stays e.r n = S := ⟨_, rfl⟩
      obtain ⟨rd, hrdd⟩ : ∃ rd, tRoom room (ab (came L left)) n = rd := ⟨_, rfl⟩
      rw [hS] at hst hrd HS
      rw [hrdd] at hrd d0
      have HD1 := Lib.hid (And.intro hD1 (And.intro hS hrdd))
      have HG := Lib.hid (And.intro hrg1 (And.intro hgb (And.intro hnot (And.intro hLd hlt))))
      have hrl1 : r < w1.heap.size := Nat.lt_of_lt_of_le HX.out.2.2.2.2.2 hg1.size
      have HZ : ∀ w2 : World, (∃ k, w2 = w1.drewN k) → Hid ((w2.setCell ⟨dB, 0, none⟩ (.int .i64 ((rd : Int) + ((e.r.t.size : Int) - (S : Int))))).drew.ranges Tryz.prog 9 ptrElem b r (nb L).length (D (nb L)) (fun z => left z && !z.sameKey (kl e.nm)) cnt1 ∧ RepL (w2.setCell ⟨dB, 0, none⟩ (.int .i64 ((rd : Int) + ((e.r.t.size : Int) - (S : Int))))).drew dB (rd + (e.r.t.size - S)) md Ld ∧ rd + (e.r.t.size - S) = tRoom room (ab (came L (fun z => left z && !z.sameKey (kl e.nm)))) n ∧ Below w.heap.size w (w2.setCell ⟨dB, 0, none⟩ (.int .i64 ((rd : Int) + ((e.r.t.size : Int) - (S : Int))))).drew ∧ r < (w2.setCell ⟨dB, 0, none⟩ (.int .i64 ((rd : Int) + ((e.r.t.size : Int) - (S : Int))))).drew.heap.size) := by
        rintro _ ⟨k2, rfl⟩
        have e2 : ((rd + (e.r.t.size - S) : Nat) : Int) = (rd : Int) + ((e.r.t.size : Int) - (S : Int)) := by omega
        refine Lib.hid (tear_skip HH.out he hle hrg1 hD1 HX.out.2.2.1 HX.out.2.2.2.1 hgb hrl1 hbw (by rw [hS, hrdd]) ?_ (fun k _ hk => ?_) ?_)
        · rw [ChAt, e2]
          refine ⟨⟨?_, ?_⟩, ?_, ?_⟩ <;> go_simp
        · exact Below.heap_setCell _ _ _ _ hk
        · exact ((⟨rfl, rfl, rfl, Nat.le_refl _, fun _ _ _ => rfl⟩ : Only [dB] w1 (w1.drewN k2)).setCell (.inl (by simp)) _).drew
      have HG := Lib.hid (And.intro hnot (And.intro hLd (And.intro hlt (And.intro hle hS))))
      have HMM : Hid (cnt1 < cnt) := Lib.hid hlt
      have m1 : IntKind.i64.wrap ((e.r.t.size : Int) - (S : Int)) = (e.r.t.size : Int) - (S : Int) := IntWalk.i64_in _ (by omega)
      have m2 : IntKind.i64.wrap ((rd : Int) + ((e.r.t.size : Int) - (S : Int))) = (rd : Int) + ((e.r.t.size : Int) - (S : Int)) := IntWalk.i64_in _ (by omega)
      clear hgb hE hD1 hpr hts hrm hv hS hrdd hLd hnot hg1 hs1 hrg1 hle hlt d1 f1
      by_cases hC : S = 0 ∧ e.r.s = false
      · obtain ⟨hC1, hC2⟩ := hC
        have hno : torn e.r n = none := by unfold torn; rw [HG.out.2.2.2.2, if_neg (by rw [hC2]; simp; omega)]
        have hb0 : decide (0 < S) = false := by rw [hC1]; rfl
        clear hC1
        have HNO := Lib.hid hno
        clear hno
        have hsf := Lib.hid hC2
        clear hC2
        go_wp2_with (go_at_call 41; refine HS.out.mono ?_; rintro _ w2 ⟨rfl, hk2⟩; have hz := Lib.hid (HZ w2 hk2).out; have hh : w2.heap = w1.heap := (by obtain ⟨k, hk⟩ := hk2; rw [hk]; rfl); have hcc : ∀ a, w2.cell? a = w1.cell? a := (fun a => by unfold World.cell?; rw [hh]); have hff : ∀ a, w2.frozen? a = w1.frozen? a := (fun a => by unfold World.frozen?; rw [hh]); have v0 : w2.cell? ⟨dB, 0, none⟩ = some (.int .i64 (rd : Int)) := (by rw [hcc]; exact d0); have v1 : w2.frozen? ⟨dB, 0, none⟩ = false := (by rw [hff]; exact f0); have v2 : w2.cell? ⟨e.rb, 0, none⟩ = some (.slice ad e.r.t.size cap) := (by rw [hcc]; exact r0); have v3 : w2.cell? ⟨e.rb, 2, none⟩ = some (.bool e.r.s) := (by rw [hcc]; exact r2); have HH2 := Lib.hid hh; clear hh hk2 hcc hff; rw [hsf.out] at v3)
        go_still_tail 14, (by kernel_rfl)
        go_wp2
        go_roundw
        case rel => exact tear_skip_rel HH.out he HG.out.2.2.2.1 HX.out.2.2.1 HX.out.2.2.2.1 HNO.out hz.out
        case measure => rw [World.ranges.left_eq hz.out.1, World.ranges.left_eq HX.out.1]; exact HMM.out
      · have hput : 0 < S ∨ e.r.s = true := by
          rcases Nat.eq_zero_or_pos S with h1 | h1
          · right
            cases h2 : e.r.s with
            | true => rfl
            | false => exact absurd ⟨h1, h2⟩ hC
          · exact .inl h1
        have HPUT := Lib.hid hput
        have hcases : (0 < S) ∨ (decide (0 < S) = false ∧ e.r.s = true) := by
          rcases Nat.eq_zero_or_pos S with h1 | h1
          · right
            rcases hput with h2 | h2
            · omega
            · exact ⟨by rw [h1]; rfl, h2⟩
          · exact .inl h1
        have htx : (ad = none ∧ cap = 0 ∧ e.r.t.size = 0) ∨ ∃ g, ad = some ⟨g, 0, none⟩ ∧ e.r.t.size ≤ cap ∧ cap ≤ maxLen := by
          rcases HT.out.2 with ⟨h1, h2⟩ | ⟨g, cap', cur, h1, _, _, h2, h3, _⟩
          · injection h1 with q1 q2 q3; exact .inl ⟨q1, q3, h2⟩
          · injection h1 with q1 q2 q3; exact .inr ⟨g, q1, by omega, by omega⟩
        have hcut : Text w1 (.slice ad S cap) (e.r.t.extract 0 S) := by
          rcases htx with ⟨h1, h2, h3⟩ | ⟨g, h1, h2, h3⟩
          · have h4 : S = 0 := by omega
            have h5 : e.r.t.extract 0 0 = e.r.t := by
              have := extract_all e.r.t
              rw [h3] at this
              exact this
            have := HT.out
            rw [h4, h5, ← h3]
            exact this
          · have := HT.out
            rw [h1] at this ⊢
            exact text_cut this S hst.2
        have HCUT := Lib.hid hcut
        have ez : (e.r.t.extract 0 S).size = S := by rw [ByteArray.size_extract]; omega
        have EZ := Lib.hid ez
        clear hput hC hcut ez
        rcases htx with ⟨rfl, rfl, hT0⟩ | ⟨g, rfl, hT0, hT1⟩ <;> rcases hcases with hS0 | ⟨hS0, hsu⟩
        · exfalso; omega
        · have hsf := Lib.hid hsu
          clear hsu
          have hq : (e.r.t.size : Int) + 5 < 6 := by omega
          clear hT0
          go_wp2_with (go_at_call 41; refine HS.out.mono ?_; rintro _ w2 ⟨rfl, hk2⟩; have hz := Lib.hid (HZ w2 hk2).out; have hh : w2.heap = w1.heap := (by obtain ⟨k, hk⟩ := hk2; rw [hk]; rfl); have hcc : ∀ a, w2.cell? a = w1.cell? a := (fun a => by unfold World.cell?; rw [hh]); have hff : ∀ a, w2.frozen? a = w1.frozen? a := (fun a => by unfold World.frozen?; rw [hh]); have v0 : w2.cell? ⟨dB, 0, none⟩ = some (.int .i64 (rd : Int)) := (by rw [hcc]; exact d0); have v1 : w2.frozen? ⟨dB, 0, none⟩ = false := (by rw [hff]; exact f0); have v2 : w2.cell? ⟨e.rb, 0, none⟩ = some (.slice none e.r.t.size 0) := (by rw [hcc]; exact r0); have v3 : w2.cell? ⟨e.rb, 2, none⟩ = some (.bool e.r.s) := (by rw [hcc]; exact r2); have HH2 := Lib.hid hh; clear hh hk2 hcc hff; rw [hsf.out] at v3)
          go_still_tail 14, (by kernel_rfl)
          have ht3 : Text (w2.setCell ⟨dB, 0, none⟩ (.int .i64 ((rd : Int) + ((e.r.t.size : Int) - (S : Int))))).drew (.slice none S 0) (e.r.t.extract 0 S) := HCUT.out.kept (fun g' hg' => by
            have h1 : g' < w.heap.size := HH.out.elt he (by have h2 := HEV.out; unfold En.foot; rw [h2]; simp [show (Value.slice none e.r.t.size 0).ownBlock = some g' from hg'])
            have h2 := HR.out
            show (w2.setCell ⟨dB, 0, none⟩ _).heap[g']? = _
            rw [Below.heap_setCell _ _ _ _ (by simp only; omega), HH2.out])
          go_wp2_with (first
            | (go_at_call 43; refine (copied_p ht3 (by rw [EZ.out]; omega)).mono ?_; rintro _ w4 ⟨v', rfl, ht4, hb4, hl4⟩; obtain ⟨ad', cap', rfl⟩ := text_shape ht4; rw [EZ.out] at ht4 hl4 ⊢
               have hD5 : RepL (w4.alloc (.cells #[.slice ad' S cap', .int .i64 (S : Int), .bool true] 87)) dB (rd + (e.r.t.size - S)) md Ld := hz.out.2.1.kept (fun k hk => by rw [Below.heap_alloc _ _ _ (Nat.lt_of_lt_of_le (hz.out.2.1.lt k hk) hb4.size), hb4.block k (hz.out.2.1.lt k hk)])
               have H5 := Lib.hid (And.intro hD5 (And.intro ht4 (And.intro hb4 hl4)))
               clear hD5 ht4 hb4 hl4)
            | (go_at_call 42; refine (rput_p H5.out.1.ch H5.out.1.map (names_nb H5.out.1) H5.out.1.apart.cm e.nm (by omega) (by rw [nb, List.length_map]; exact HG.out.2.1) w4.heap.size).mono ?_; rintro _ w6 ⟨b3, rfl, hc6, hm6, ho6, hb6⟩
               have H6 := Lib.hid (And.intro hc6 (And.intro hm6 (And.intro ho6 hb6)))
               clear hc6 hm6 ho6 hb6))
          have hfil : (nb Ld).filter (fun x => decide (x.1 ≠ e.nm)) = nb Ld := List.filter_eq_self.2 (fun x hx => by
            obtain ⟨y, hy, rfl⟩ := List.mem_map.1 hx
            simpa using HG.out.1 y hy)
          obtain ⟨hc6, hm6, ho6, hb6⟩ := H6.out
          rw [hfil] at hm6
          have hsz4 : (w4.alloc (.cells #[.slice ad' S cap', .int .i64 (S : Int), .bool true] 87)).heap.size = w4.heap.size + 1 := by simp
          rw [hsz4] at hb6
          have hend := tear_put_rel HH.out he HG.out.2.2.2.1 HX.out.2.2.1 HX.out.2.2.2.1 hbw hz.out HG.out.2.2.2.2 HPUT.out H5.out.2.1 H5.out.2.2.1 H5.out.2.2.2 hc6 hm6 ho6 hb6
          have HEND := Lib.hid hend
          clear hend hc6 hm6 ho6 hb6 hfil hsz4
          go_roundw
          case rel => exact HEND.out.1
          case measure => rw [World.ranges.left_eq HEND.out.2, World.ranges.left_eq HX.out.1]; exact HMM.out

        · go_wp2_with (go_at_call 41; refine HS.out.mono ?_; rintro _ w2 ⟨rfl, hk2⟩; have hz := Lib.hid (HZ w2 hk2).out; have hh : w2.heap = w1.heap := (by obtain ⟨k, hk⟩ := hk2; rw [hk]; rfl); have hcc : ∀ a, w2.cell? a = w1.cell? a := (fun a => by unfold World.cell?; rw [hh]); have hff : ∀ a, w2.frozen? a = w1.frozen? a := (fun a => by unfold World.frozen?; rw [hh]); have v0 : w2.cell? ⟨dB, 0, none⟩ = some (.int .i64 (rd : Int)) := (by rw [hcc]; exact d0); have v1 : w2.frozen? ⟨dB, 0, none⟩ = false := (by rw [hff]; exact f0); have v2 : w2.cell? ⟨e.rb, 0, none⟩ = some (.slice (some ⟨g, 0, none⟩) e.r.t.size cap) := (by rw [hcc]; exact r0); have v3 : w2.cell? ⟨e.rb, 2, none⟩ = some (.bool e.r.s) := (by rw [hcc]; exact r2); have HH2 := Lib.hid hh; clear hh hk2 hcc hff)
          go_still_tail 14, (by kernel_rfl)
          have ht3 : Text (w2.setCell ⟨dB, 0, none⟩ (.int .i64 ((rd : Int) + ((e.r.t.size : Int) - (S : Int))))).drew (.slice (some ⟨g, 0, none⟩) S cap) (e.r.t.extract 0 S) := HCUT.out.kept (fun g' hg' => by
            have h1 : g' < w.heap.size := HH.out.elt he (by have h2 := HEV.out; unfold En.foot; rw [h2]; simp [show (Value.slice (some ⟨g, 0, none⟩) e.r.t.size cap).ownBlock = some g' from hg'])
            have h2 := HR.out
            show (w2.setCell ⟨dB, 0, none⟩ _).heap[g']? = _
            rw [Below.heap_setCell _ _ _ _ (by simp only; omega), HH2.out])
          go_wp2_with (first
            | (go_at_call 43; refine (copied_p ht3 (by rw [EZ.out]; omega)).mono ?_; rintro _ w4 ⟨v', rfl, ht4, hb4, hl4⟩; obtain ⟨ad', cap', rfl⟩ := text_shape ht4; rw [EZ.out] at ht4 hl4 ⊢
               have hD5 : RepL (w4.alloc (.cells #[.slice ad' S cap', .int .i64 (S : Int), .bool true] 87)) dB (rd + (e.r.t.size - S)) md Ld := hz.out.2.1.kept (fun k hk => by rw [Below.heap_alloc _ _ _ (Nat.lt_of_lt_of_le (hz.out.2.1.lt k hk) hb4.size), hb4.block k (hz.out.2.1.lt k hk)])
               have H5 := Lib.hid (And.intro hD5 (And.intro ht4 (And.intro hb4 hl4)))
               clear hD5 ht4 hb4 hl4)
            | (go_at_call 42; refine (rput_p H5.out.1.ch H5.out.1.map (names_nb H5.out.1) H5.out.1.apart.cm e.nm (by omega) (by rw [nb, List.length_map]; exact HG.out.2.1) w4.heap.size).mono ?_; rintro _ w6 ⟨b3, rfl, hc6, hm6, ho6, hb6⟩
               have H6 := Lib.hid (And.intro hc6 (And.intro hm6 (And.intro ho6 hb6)))
               clear hc6 hm6 ho6 hb6))
          have hfil : (nb Ld).filter (fun x => decide (x.1 ≠ e.nm)) = nb Ld := List.filter_eq_self.2 (fun x hx => by
            obtain ⟨y, hy, rfl⟩ := List.mem_map.1 hx
            simpa using HG.out.1 y hy)
          obtain ⟨hc6, hm6, ho6, hb6⟩ := H6.out
          rw [hfil] at hm6
          have hsz4 : (w4.alloc (.cells #[.slice ad' S cap', .int .i64 (S : Int), .bool true] 87)).heap.size = w4.heap.size + 1 := by simp
          rw [hsz4] at hb6
          have hend := tear_put_rel HH.out he HG.out.2.2.2.1 HX.out.2.2.1 HX.out.2.2.2.1 hbw hz.out HG.out.2.2.2.2 HPUT.out H5.out.2.1 H5.out.2.2.1 H5.out.2.2.2 hc6 hm6 ho6 hb6
          have HEND := Lib.hid hend
          clear hend hc6 hm6 ho6 hb6 hfil hsz4
          go_roundw
          case rel => exact HEND.out.1
          case measure => rw [World.ranges.left_eq HEND.out.2, World.ranges.left_eq HX.out.1]; exact HMM.out

        · have hsf := Lib.hid hsu
          clear hsu
          go_wp2_with (go_at_call 41; refine HS.out.mono ?_; rintro _ w2 ⟨rfl, hk2⟩; have hz := Lib.hid (HZ w2 hk2).out; have hh : w2.heap = w1.heap := (by obtain ⟨k, hk⟩ := hk2; rw [hk]; rfl); have hcc : ∀ a, w2.cell? a = w1.cell? a := (fun a => by unfold World.cell?; rw [hh]); have hff : ∀ a, w2.frozen? a = w1.frozen? a := (fun a => by unfold World.frozen?; rw [hh]); have v0 : w2.cell? ⟨dB, 0, none⟩ = some (.int .i64 (rd : Int)) := (by rw [hcc]; exact d0); have v1 : w2.frozen? ⟨dB, 0, none⟩ = false := (by rw [hff]; exact f0); have v2 : w2.cell? ⟨e.rb, 0, none⟩ = some (.slice (some ⟨g, 0, none⟩) e.r.t.size cap) := (by rw [hcc]; exact r0); have v3 : w2.cell? ⟨e.rb, 2, none⟩ = some (.bool e.r.s) := (by rw [hcc]; exact r2); have HH2 := Lib.hid hh; clear hh hk2 hcc hff; rw [hsf.out] at v3)
          go_still_tail 14, (by kernel_rfl)
          have ht3 : Text (w2.setCell ⟨dB, 0, none⟩ (.int .i64 ((rd : Int) + ((e.r.t.size : Int) - (S : Int))))).drew (.slice (some ⟨g, 0, none⟩) S cap) (e.r.t.extract 0 S) := HCUT.out.kept (fun g' hg' => by
            have h1 : g' < w.heap.size := HH.out.elt he (by have h2 := HEV.out; unfold En.foot; rw [h2]; simp [show (Value.slice (some ⟨g, 0, none⟩) e.r.t.size cap).ownBlock = some g' from hg'])
            have h2 := HR.out
            show (w2.setCell ⟨dB, 0, none⟩ _).heap[g']? = _
            rw [Below.heap_setCell _ _ _ _ (by simp only; omega), HH2.out])
          go_wp2_with (first
            | (go_at_call 43; refine (copied_p ht3 (by rw [EZ.out]; omega)).mono ?_; rintro _ w4 ⟨v', rfl, ht4, hb4, hl4⟩; obtain ⟨ad', cap', rfl⟩ := text_shape ht4; rw [EZ.out] at ht4 hl4 ⊢
               have hD5 : RepL (w4.alloc (.cells #[.slice ad' S cap', .int .i64 (S : Int), .bool true] 87)) dB (rd + (e.r.t.size - S)) md Ld := hz.out.2.1.kept (fun k hk => by rw [Below.heap_alloc _ _ _ (Nat.lt_of_lt_of_le (hz.out.2.1.lt k hk) hb4.size), hb4.block k (hz.out.2.1.lt k hk)])
               have H5 := Lib.hid (And.intro hD5 (And.intro ht4 (And.intro hb4 hl4)))
               clear hD5 ht4 hb4 hl4)
            | (go_at_call 42; refine (rput_p H5.out.1.ch H5.out.1.map (names_nb H5.out.1) H5.out.1.apart.cm e.nm (by omega) (by rw [nb, List.length_map]; exact HG.out.2.1) w4.heap.size).mono ?_; rintro _ w6 ⟨b3, rfl, hc6, hm6, ho6, hb6⟩
               have H6 := Lib.hid (And.intro hc6 (And.intro hm6 (And.intro ho6 hb6)))
               clear hc6 hm6 ho6 hb6))
          have hfil : (nb Ld).filter (fun x => decide (x.1 ≠ e.nm)) = nb Ld := List.filter_eq_self.2 (fun x hx => by
            obtain ⟨y, hy, rfl⟩ := List.mem_map.1 hx
            simpa using HG.out.1 y hy)
          obtain ⟨hc6, hm6, ho6, hb6⟩ := H6.out
          rw [hfil] at hm6
          have hsz4 : (w4.alloc (.cells #[.slice ad' S cap', .int .i64 (S : Int), .bool true] 87)).heap.size = w4.heap.size + 1 := by simp
          rw [hsz4] at hb6
          have hend := tear_put_rel HH.out he HG.out.2.2.2.1 HX.out.2.2.1 HX.out.2.2.2.1 hbw hz.out HG.out.2.2.2.2 HPUT.out H5.out.2.1 H5.out.2.2.1 H5.out.2.2.2 hc6 hm6 ho6 hb6
          have HEND := Lib.hid hend
          clear hend hc6 hm6 ho6 hb6 hfil hsz4
          go_roundw
          case rel => exact HEND.out.1
          case measure => rw [World.ranges.left_eq HEND.out.2, World.ranges.left_eq HX.out.1]; exact HMM.out
end Go.Proofs.YtaacdggjkfmehaaGreatDoor
