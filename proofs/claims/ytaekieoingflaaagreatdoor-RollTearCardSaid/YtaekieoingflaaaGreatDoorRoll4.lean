/-
  What becomes of a chest's rolls; roll's Write.
-/
import Derived.Test.YtaekieoingflaaaGreatDoorRoll3
namespace Go.Proofs.YtaekieoingflaaaGreatDoor
open Go.RowKit Go.Maps Go.Proofs.MapD Go.Proofs.Chest

theorem uniq_of {α β : Type} {f : α → β} : ∀ {l : List α}, (l.map f).Nodup → ∀ {a b : α}, a ∈ l → b ∈ l → f a = f b → a = b
  | [], _, _, _, ha, _, _ => by cases ha
  | x :: r, h, a, b, ha, hb, e => by
    rw [List.map_cons, List.nodup_cons] at h
    rcases List.mem_cons.1 ha with rfl | ha' <;> rcases List.mem_cons.1 hb with rfl | hb'
    · rfl
    · exact absurd (List.mem_map.2 ⟨b, hb', e.symm⟩) h.1
    · exact absurd (List.mem_map.2 ⟨a, ha', e⟩) h.1
    · exact uniq_of h.2 ha' hb' e

theorem pw_all {α : Type} {R : α → α → Prop} (hs : ∀ a b, R a b → R b a) : ∀ {l : List α}, l.Pairwise R → ∀ {a b : α}, a ∈ l → b ∈ l → a ≠ b → R a b
  | [], _, _, _, ha, _, _ => by cases ha
  | x :: r, h, a, b, ha, hb, e => by
    rw [List.pairwise_cons] at h
    rcases List.mem_cons.1 ha with rfl | ha' <;> rcases List.mem_cons.1 hb with rfl | hb'
    · exact absurd rfl e
    · exact h.1 _ hb'
    · exact hs _ _ (h.1 _ ha')
    · exact pw_all hs h.2 ha' hb' e

theorem rb_mem (e : En) : e.rb ∈ e.foot := by simp [En.foot]

theorem foot_mem {e : En} {k : Nat} (h : k ∈ e.foot) : k = e.rb ∨ e.v.ownBlock = some k := by
  rcases List.mem_cons.1 h with rfl | h
  · exact .inl rfl
  · exact .inr (by simpa using h)

section
variable {w w' : World} {c room room' : Nat} {m : Option Nat} {L : List En} {e e' : En}

theorem RepL.uniq (h : RepL w c room m L) {a b : En} (ha : a ∈ L) (hb : b ∈ L) (hn : a.nm = b.nm) : a = b := by
  have := h.wf.apart
  unfold ab at this
  simp only [List.map_map] at this
  exact uniq_of (f := fun e : En => e.nm) this ha hb hn

theorem RepL.disj (h : RepL w c room m L) {a b : En} (ha : a ∈ L) (hb : b ∈ L) (hn : a ≠ b) : ∀ k ∈ a.foot, k ∉ b.foot :=
  pw_all (fun _ _ h k hk hk' => h k hk' hk) h.apart.ll ha hb hn

theorem RepL.elt (h : RepL w c room m L) (he : e ∈ L) {k : Nat} (hk : k ∈ e.foot) : k < w.heap.size := (h.ens e he).lt k hk

def repl (L : List En) (e' : En) : List En := L.map fun x => if x.nm = e'.nm then e' else x

theorem mem_repl {x : En} (hx : x ∈ repl L e') : x = e' ∨ (x ∈ L ∧ x.nm ≠ e'.nm) := by
  obtain ⟨a, ha, rfl⟩ := List.mem_map.1 hx
  by_cases h1 : a.nm = e'.nm
  · exact .inl (if_pos h1)
  · rw [if_neg h1]
    exact .inr ⟨ha, h1⟩

theorem ab_repl (L : List En) (e' : En) : ab (repl L e') = Chest.set (ab L) e'.nm e'.r := by
  unfold ab repl Chest.set
  rw [List.map_map, List.map_map]
  apply List.map_congr_left
  intro x _
  simp only [Function.comp]
  by_cases h1 : x.nm = e'.nm
  · rw [if_pos h1, if_pos h1]
  · rw [if_neg h1, if_neg h1]

theorem nb_repl (h : ∀ x ∈ L, x.nm = e'.nm → x.rb = e'.rb) : nb (repl L e') = nb L := by
  unfold nb repl
  rw [List.map_map]
  apply List.map_congr_left
  intro x hx
  simp only [Function.comp]
  by_cases h1 : x.nm = e'.nm
  · rw [if_pos h1, h x hx h1, h1]
  · rw [if_neg h1]

/-- One roll of a chest turns, and the chest's room. -/
theorem RepL.repl (h : RepL w c room m L) (he : e ∈ L) (hn : e'.nm = e.nm) (hb : e'.rb = e.rb) (hv : ∀ g, e'.v.ownBlock = some g → e.v.ownBlock = some g ∨ w.heap.size ≤ g) (hc : ChAt w' c room' m) (he' : EnAt w' e')
    (hk : ∀ k, k < w.heap.size → k ≠ c → k ∉ e.foot → w'.heap[k]? = w.heap[k]?) (hw : Wf ⟨room', Chest.set (ab L) e'.nm e'.r⟩) :
    RepL w' c room' m (repl L e') ∧ ∀ k ∈ foots c m (YtaekieoingflaaaGreatDoor.repl L e'), k ∈ foots c m L ∨ w.heap.size ≤ k := by
  have hrb : e.rb < w.heap.size := h.elt he (rb_mem e)
  have hc0 : c < w.heap.size := h.ch.lt
  have hf : ∀ k ∈ e'.foot, k ∈ e.foot ∨ w.heap.size ≤ k := by
    intro k hk
    rcases foot_mem hk with rfl | hk
    · left; rw [hb]; exact rb_mem e
    · rcases hv k hk with h1 | h1
      · left; simp [En.foot, h1]
      · exact .inr h1
  have hx : ∀ x ∈ L, x.nm ≠ e'.nm → x ≠ e := fun x _ hxn hxe => hxn (by rw [hxe, hn])
  have hne : ∀ x ∈ L, x.nm ≠ e'.nm → ∀ k ∈ x.foot, k ∉ e'.foot := by
    intro x hxL hxn k hk hk'
    rcases hf k hk' with h1 | h1
    · exact h.disj hxL he (hx x hxL hxn) k hk h1
    · have := h.elt hxL hk; omega
  refine ⟨⟨hc, ?_, ?_, ⟨h.apart.cm, ?_, ?_, ?_, ?_⟩, ?_⟩, ?_⟩
  · unfold MapAt
    rw [nb_repl (fun x hxL hxn => by rw [h.uniq hxL he (hxn.trans hn), hb])]
    refine MapN.kept h.map (fun b hb' => ?_)
    subst hb'
    exact hk b h.map.lt (fun e1 => h.apart.cm b rfl e1.symm) (h.apart.me b rfl e he)
  · intro x hxr
    rcases mem_repl hxr with rfl | ⟨hxL, hxn⟩
    · exact he'
    · exact (h.ens x hxL).kept (fun k hkx => hk k (h.elt hxL hkx) (fun e1 => h.apart.ce x hxL (e1 ▸ hkx)) (h.disj hxL he (hx x hxL hxn) k hkx))
  · intro x hxr hcx
    rcases mem_repl hxr with rfl | ⟨hxL, _⟩
    · rcases hf c hcx with h1 | h1
      · exact h.apart.ce e he h1
      · omega
    · exact h.apart.ce x hxL hcx
  · intro b hb' x hxr hbx
    rcases mem_repl hxr with rfl | ⟨hxL, _⟩
    · rcases hf b hbx with h1 | h1
      · exact h.apart.me b hb' e he h1
      · subst hb'
        have := h.map.lt
        omega
    · exact h.apart.me b hb' x hxL hbx
  · intro x hxr hxe
    rcases mem_repl hxr with rfl | ⟨hxL, _⟩
    · rcases hv _ hxe with h1 | h1
      · rw [hb] at h1
        exact h.apart.ee e he h1
      · omega
    · exact h.apart.ee x hxL hxe
  · unfold YtaekieoingflaaaGreatDoor.repl
    rw [List.pairwise_map]
    refine List.Pairwise.imp_of_mem ?_ h.apart.ll
    intro a b ha hb' hab k hka hkb
    by_cases h1 : a.nm = e'.nm <;> by_cases h2 : b.nm = e'.nm
    · have ea := h.uniq ha he (h1.trans hn)
      have eb := h.uniq hb' he (h2.trans hn)
      rw [ea, eb] at hab
      exact hab e.rb (rb_mem e) (rb_mem e)
    · rw [if_pos h1] at hka
      rw [if_neg h2] at hkb
      exact hne b hb' h2 k hkb hka
    · rw [if_neg h1] at hka
      rw [if_pos h2] at hkb
      exact hne a ha h1 k hka hkb
    · rw [if_neg h1] at hka
      rw [if_neg h2] at hkb
      exact hab k hka hkb
  · rw [ab_repl]; exact hw
  · intro k hkf
    unfold foots at hkf ⊢
    rcases List.mem_cons.1 hkf with rfl | hkf
    · left; simp
    · rcases List.mem_append.1 hkf with hkf | hkf
      · left; exact List.mem_cons_of_mem _ (List.mem_append_left _ hkf)
      · obtain ⟨x, hxr, hkx⟩ := List.mem_flatMap.1 hkf
        rcases mem_repl hxr with rfl | ⟨hxL, _⟩
        · rcases hf k hkx with h1 | h1
          · left; exact List.mem_cons_of_mem _ (List.mem_append_right _ (List.mem_flatMap.2 ⟨e, he, h1⟩))
          · exact .inr h1
        · left; exact List.mem_cons_of_mem _ (List.mem_append_right _ (List.mem_flatMap.2 ⟨x, hxL, hkx⟩))

theorem get_ab (L : List En) (n : ByteArray) : (∃ e ∈ L, e.nm = n ∧ get (ab L) n = some e.r) ∨ ((∀ e ∈ L, e.nm ≠ n) ∧ get (ab L) n = none) := by
  cases hg : get (ab L) n with
  | some r =>
    left
    obtain ⟨e, he, h1⟩ := List.mem_map.1 (get_mem hg)
    obtain ⟨rfl, rfl⟩ : e.nm = n ∧ e.r = r := by injection h1 with a b; exact ⟨a, b⟩
    exact ⟨e, he, rfl, rfl⟩
  | none =>
    right
    exact ⟨fun e he hn => get_none.1 hg (e.nm, e.r) (List.mem_map.2 ⟨e, he, rfl⟩) hn, rfl⟩

end

/-- What a call makes of a chest. -/
def Turns (w : World) (c : Nat) (F : List Nat) (st : St) (w' : World) : Prop := ∃ F', Rep w' c F' st ∧ (∀ k ∈ F', k ∈ F ∨ w.heap.size ≤ k) ∧ Only F w w'

theorem Turns.same {w : World} {c : Nat} {F : List Nat} {st : St} (h : Rep w c F st) : Turns w c F st w := ⟨F, h, fun _ hk => .inl hk, Only.refl _ _⟩

theorem RepL.rep {w : World} {c room : Nat} {m : Option Nat} {L : List En} (h : RepL w c room m L) : Rep w c (foots c m L) ⟨room, ab L⟩ := ⟨m, L, h, rfl, rfl⟩

end Go.Proofs.YtaekieoingflaaaGreatDoor
