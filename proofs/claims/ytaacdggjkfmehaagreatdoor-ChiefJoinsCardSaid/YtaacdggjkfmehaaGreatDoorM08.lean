/-
  Contracts of the program, and what they rest on.
-/
import Derived.Test.YtaacdggjkfmehaaGreatDoorM07
namespace Go.Proofs.YtaacdggjkfmehaaGreatDoor
open Go.RowKit Go.Maps Go.Proofs.MapD Go.Proofs.Chest
theorem uniq_of {α β : Type} {f : α → β} : ∀ {l : List α}, (l.map f).Nodup → ∀ {a b : α}, a ∈ l → b ∈ l → f a = f b → a = b
  | [], _, _, _, ha, _, _ => by cases ha
  | x :: r, h, a, b, ha, hb, e => by
    rw [List.map_cons, List.nodup_cons] at h
    rcases List.mem_cons.1 ha with rfl | ha' <;> rcases List.mem_cons.1 hb with rfl | hb'
    · rfl
    · exact absurd (List.mem_map.2 ⟨b, hb', e.symm⟩) h.1
    · exact absurd (List.mem_map.2 ⟨a, ha', e⟩) h.1
    · exact uniq_of h.2 ha' hb' e
theorem pw_all {α : Type} {R : α → α → Prop} (hs : ∀ a b, R a b → R b a) : ∀ {l : List α}, l.Pairwise R → ∀ {a b : α}, a ∈ l → b ∈ l → a ≠ b → R a b
  | [], _, _, _, ha, _, _ => by cases ha
  | x :: r, h, a, b, ha, hb, e => by
    rw [List.pairwise_cons] at h
    rcases List.mem_cons.1 ha with rfl | ha' <;> rcases List.mem_cons.1 hb with rfl | hb'
    · exact absurd rfl e
    · exact h.1 _ hb'
    · exact hs _ _ (h.1 _ ha')
    · exact pw_all hs h.2 ha' hb' e
theorem rb_mem (e : En) : e.rb ∈ e.foot := by simp [En.foot]
theorem foot_mem {e : En} {k : Nat} (h : k ∈ e.foot) : k = e.rb ∨ e.v.ownBlock = some k := by
  rcases List.mem_cons.1 h with rfl | h
  · exact .inl rfl
  · exact .inr (by simpa using h)
section
variable {w w' : World} {c room room' : Nat} {m : Option Nat} {L : List En} {e e' : En}
theorem RepL.uniq (h : RepL w c room m L) {a b : En} (ha : a ∈ L) (hb : b ∈ L) (hn : a.nm = b.nm) : a = b := by
  have := h.wf.apart
  unfold ab at this
  simp only [List.map_map] at this
  exact uniq_of (f := fun e : En => e.nm) this ha hb hn
theorem RepL.disj (h : RepL w c room m L) {a b : En} (ha : a ∈ L) (hb : b ∈ L) (hn : a ≠ b) : ∀ k ∈ a.foot, k ∉ b.foot :=
  pw_all (fun _ _ h k hk hk' => h k hk' hk) h.apart.ll ha hb hn
theorem RepL.elt (h : RepL w c room m L) (he : e ∈ L) {k : Nat} (hk : k ∈ e.foot) : k < w.heap.size := (h.ens e he).lt k hk
def repl (L : List En) (e' : En) : List En := L.map fun x => if x.nm = e'.nm then e' else x
theorem mem_repl {x : En} (hx : x ∈ repl L e') : x = e' ∨ (x ∈ L ∧ x.nm ≠ e'.nm) := by
  obtain ⟨a, ha, rfl⟩ := List.mem_map.1 hx
  by_cases h1 : a.nm = e'.nm
  · exact .inl (if_pos h1)
  · rw [if_neg h1]
    exact .inr ⟨ha, h1⟩
theorem ab_repl (L : List En) (e' : En) : ab (repl L e') = Chest.set (ab L) e'.nm e'.r := by
  unfold ab repl Chest.set
  rw [List.map_map, List.map_map]
  apply List.map_congr_left
  intro x _
  simp only [Function.comp]
  by_cases h1 : x.nm = e'.nm
  · rw [if_pos h1, if_pos h1]
  · rw [if_neg h1, if_neg h1]
theorem nb_repl (h : ∀ x ∈ L, x.nm = e'.nm → x.rb = e'.rb) : nb (repl L e') = nb L := by
  unfold nb repl
  rw [List.map_map]
  apply List.map_congr_left
  intro x hx
  simp only [Function.comp]
  by_cases h1 : x.nm = e'.nm
  · rw [if_pos h1, h x hx h1, h1]
  · rw [if_neg h1]
theorem RepL.repl (h : RepL w c room m L) (he : e ∈ L) (hn : e'.nm = e.nm) (hb : e'.rb = e.rb) (hv : ∀ g, e'.v.ownBlock = some g → e.v.ownBlock = some g ∨ w.heap.size ≤ g) (hc : ChAt w' c room' m) (he' : EnAt w' e')
    (hk : ∀ k, k < w.heap.size → k ≠ c → k ∉ e.foot → w'.heap[k]? = w.heap[k]?) (hw : Wf ⟨room', Chest.set (ab L) e'.nm e'.r⟩) :
    RepL w' c room' m (repl L e') ∧ ∀ k ∈ foots c m (YtaacdggjkfmehaaGreatDoor.repl L e'), k ∈ foots c m L ∨ w.heap.size ≤ k := by
  have hrb : e.rb < w.heap.size := h.elt he (rb_mem e)
  have hc0 : c < w.heap.size := h.ch.lt
  have hf : ∀ k ∈ e'.foot, k ∈ e.foot ∨ w.heap.size ≤ k := by
    intro k hk
    rcases foot_mem hk with rfl | hk
    · left; rw [hb]; exact rb_mem e
    · rcases hv k hk with h1 | h1
      · left; simp [En.foot, h1]
      · exact .inr h1
  have hx : ∀ x ∈ L, x.nm ≠ e'.nm → x ≠ e := fun x _ hxn hxe => hxn (by rw [hxe, hn])
  have hne : ∀ x ∈ L, x.nm ≠ e'.nm → ∀ k ∈ x.foot, k ∉ e'.foot := by
    intro x hxL hxn k hk hk'
    rcases hf k hk' with h1 | h1
    · exact h.disj hxL he (hx x hxL hxn) k hk h1
    · have := h.elt hxL hk; omega
  refine ⟨⟨hc, ?_, ?_, ⟨h.apart.cm, ?_, ?_, ?_, ?_⟩, ?_⟩, ?_⟩
  · unfold MapAt
    rw [nb_repl (fun x hxL hxn => by rw [h.uniq hxL he (hxn.trans hn), hb])]
    refine MapN.kept h.map (fun b hb' => ?_)
    subst hb'
    exact hk b h.map.lt (fun e1 => h.apart.cm b rfl e1.symm) (h.apart.me b rfl e he)
  · intro x hxr
    rcases mem_repl hxr with rfl | ⟨hxL, hxn⟩
    · exact he'
    · exact (h.ens x hxL).kept (fun k hkx => hk k (h.elt hxL hkx) (fun e1 => h.apart.ce x hxL (e1 ▸ hkx)) (h.disj hxL he (hx x hxL hxn) k hkx))
  · intro x hxr hcx
    rcases mem_repl hxr with rfl | ⟨hxL, _⟩
    · rcases hf c hcx with h1 | h1
      · exact h.apart.ce e he h1
      · omega
    · exact h.apart.ce x hxL hcx
  · intro b hb' x hxr hbx
    rcases mem_repl hxr with rfl | ⟨hxL, _⟩
    · rcases hf b hbx with h1 | h1
      · exact h.apart.me b hb' e he h1
      · subst hb'
        have := h.map.lt
        omega
    · exact h.apart.me b hb' x hxL hbx
  · intro x hxr hxe
    rcases mem_repl hxr with rfl | ⟨hxL, _⟩
    · rcases hv _ hxe with h1 | h1
      · rw [hb] at h1
        exact h.apart.ee e he h1
      · omega
    · exact h.apart.ee x hxL hxe
  · unfold YtaacdggjkfmehaaGreatDoor.repl
    rw [List.pairwise_map]
    refine List.Pairwise.imp_of_mem ?_ h.apart.ll
    intro a b ha hb' hab k hka hkb
    by_cases h1 : a.nm = e'.nm <;> by_cases h2 : b.nm = e'.nm
    · have ea := h.uniq ha he (h1.trans hn)
      have eb := h.uniq hb' he (h2.trans hn)
      rw [ea, eb] at hab
      exact hab e.rb (rb_mem e) (rb_mem e)
    · rw [if_pos h1] at hka
      rw [if_neg h2] at hkb
      exact hne b hb' h2 k hkb hka
    · rw [if_neg h1] at hka
      rw [if_pos h2] at hkb
      exact hne a ha h1 k hka hkb
    · rw [if_neg h1] at hka
      rw [if_neg h2] at hkb
      exact hab k hka hkb
  · rw [ab_repl]; exact hw
  · intro k hkf
    unfold foots at hkf ⊢
    rcases List.mem_cons.1 hkf with rfl | hkf
    · left; simp
    · rcases List.mem_append.1 hkf with hkf | hkf
      · left; exact List.mem_cons_of_mem _ (List.mem_append_left _ hkf)
      · obtain ⟨x, hxr, hkx⟩ := List.mem_flatMap.1 hkf
        rcases mem_repl hxr with rfl | ⟨hxL, _⟩
        · rcases hf k hkx with h1 | h1
          · left; exact List.mem_cons_of_mem _ (List.mem_append_right _ (List.mem_flatMap.2 ⟨e, he, h1⟩))
          · exact .inr h1
        · left; exact List.mem_cons_of_mem _ (List.mem_append_right _ (List.mem_flatMap.2 ⟨x, hxL, hkx⟩))
theorem get_ab (L : List En) (n : ByteArray) : (∃ e ∈ L, e.nm = n ∧ get (ab L) n = some e.r) ∨ ((∀ e ∈ L, e.nm ≠ n) ∧ get (ab L) n = none) := by
  cases hg : get (ab L) n with
  | some r =>
    left
    obtain ⟨e, he, h1⟩ := List.mem_map.1 (get_mem hg)
    obtain ⟨rfl, rfl⟩ : e.nm = n ∧ e.r = r := by injection h1 with a b; exact ⟨a, b⟩
    exact ⟨e, he, rfl, rfl⟩
  | none =>
    right
    exact ⟨fun e he hn => get_none.1 hg (e.nm, e.r) (List.mem_map.2 ⟨e, he, rfl⟩) hn, rfl⟩
end
def Turns (w : World) (c : Nat) (F : List Nat) (st : St) (w' : World) : Prop := ∃ F', Rep w' c F' st ∧ (∀ k ∈ F', k ∈ F ∨ w.heap.size ≤ k) ∧ Only F w w'
theorem Turns.same {w : World} {c : Nat} {F : List Nat} {st : St} (h : Rep w c F st) : Turns w c F st w := ⟨F, h, fun _ hk => .inl hk, Only.refl _ _⟩
end Go.Proofs.YtaacdggjkfmehaaGreatDoor
namespace Go.Proofs.YtaacdggjkfmehaaGreatDoor
open Go.RowKit Go.Maps Go.Proofs.MapD Go.Proofs.Chest
set_option maxRecDepth 100000 in
theorem write_form {w : World} (c : Nat) (n s : ByteArray) (hn : n.size ≤ 1000000) (hk : okName n = false) :
    Calls Tryz.prog 99 #[.pointer (some ⟨c, 0, none⟩), .string n, .string s] w fun x w' => x = .returned (.int .i64 1) ∧ w = w' := by
  have HK := Lib.hid hk
  clear hk
  go_enter Tryz.func99, Tryz.ntmps99
  go_wp2_with (go_at_call 98; refine (may_p n (by omega) _).mono ?_; rintro _ w1 ⟨rfl, rfl⟩; rw [HK.out])
  go_ret
  exact ⟨rfl, rfl⟩
set_option maxRecDepth 100000 in
theorem write_full {w : World} {c room : Nat} {m : Option Nat} (hc : ChAt w c room m) (n s : ByteArray) (hn : n.size ≤ 1000000) (hk : okName n = true) (hr : room < s.size) :
    Calls Tryz.prog 99 #[.pointer (some ⟨c, 0, none⟩), .string n, .string s] w fun x w' => x = .returned (.int .i64 5) ∧ w = w' := by
  have HK := Lib.hid hk
  clear hk
  obtain ⟨⟨c0, c1⟩, _, _⟩ := hc
  have hr' : (room : Int) < (s.size : Int) := by omega
  go_enter Tryz.func99, Tryz.ntmps99
  go_wp2_with (go_at_call 98; refine (may_p n (by omega) _).mono ?_; rintro _ w1 ⟨rfl, rfl⟩; rw [HK.out])
  go_ret
  exact ⟨rfl, rfl⟩
set_option maxRecDepth 100000 in
set_option maxHeartbeats 4000000 in
theorem write_old {w : World} {c room : Nat} {m : Option Nat} {L : List En} (h : RepL w c room m L) {e : En} (he : e ∈ L) (s : ByteArray) (hk : okName e.nm = true) (hr : s.size ≤ room) :
    Calls Tryz.prog 99 #[.pointer (some ⟨c, 0, none⟩), .string e.nm, .string s] w fun x w' => x = .returned (.int .i64 0) ∧ Turns w c (foots c m L) ⟨room - s.size, Chest.set (ab L) e.nm ⟨e.r.t ++ s, e.r.p, e.r.s⟩⟩ w' := by
  have hroom := h.wf.room
  have hts : e.r.t.size ≤ total (ab L) := total_le (e := (e.nm, e.r)) (List.mem_map.2 ⟨e, he, rfl⟩ : (e.nm, e.r) ∈ ab L)
  have hnn : e.nm.size ≤ 10 := by
    unfold okName at hk
    simp only [Bool.and_eq_true, decide_eq_true_eq] at hk
    exact hk.1.2
  have hwf : Wf ⟨room - s.size, Chest.set (ab L) e.nm ⟨e.r.t ++ s, e.r.p, e.r.s⟩⟩ := by
    have hg : get (ab L) e.nm = some e.r := get_of_mem h.wf.apart (List.mem_map.2 ⟨e, he, rfl⟩)
    have := wf_write h.wf e.nm s
    unfold write at this
    rw [if_neg (by rw [hk]; decide), if_neg (by simpa using hr), hg] at this
    exact this
  have HW := Lib.hid hwf
  have HH := Lib.hid h
  have HK := Lib.hid hk
  simp only at hroom
  have hsz : e.r.t.size + s.size ≤ 1048576 := by omega
  have hrm : room ≤ 1048576 := by omega
  clear hroom hts
  have hrb : e.rb < w.heap.size := h.elt he (rb_mem e)
  have hcw : c < w.heap.size := h.ch.lt
  have hcb : c ≠ e.rb := fun e1 => h.apart.ce e he (by rw [e1]; exact rb_mem e)
  have hcv : ∀ g, e.v.ownBlock = some g → c ≠ g := fun g hg e1 => h.apart.ce e he (by rw [e1]; simp [En.foot, hg])
  have hrv : ∀ g, e.v.ownBlock = some g → e.rb ≠ g := fun g hg e1 => h.apart.ee e he (by rw [hg, e1])
  have hT := (h.ens e he).2
  obtain ⟨⟨r0, r1, r2⟩, z0, z1, z2⟩ := (h.ens e he).1
  obtain ⟨ad, cap, hv⟩ := text_shape hT
  rw [hv] at hT r0 hcv hrv
  have HV := Lib.hid hv
  have HT := Lib.hid hT
  clear hT hv
  obtain ⟨⟨c0, c1⟩, y0, y1⟩ := h.ch
  have hm := h.map
  cases m with
  | none =>
    have h0 : nb L = [] := hm
    unfold nb at h0
    rw [List.map_eq_nil_iff] at h0
    rw [h0] at he
    cases he
  | some b =>
    have hown : w.ownsMap Tryz.prog 9 ptrElem b (nb L).length (D (nb L)) := hm
    have hhas := Lib.hid (has_nb (L := L) (n := e.nm) ⟨e, he, rfl⟩)
    have hat := Lib.hid (D_at (names_nb h) (e := (e.nm, e.rb)) (List.mem_map.2 ⟨e, he, rfl⟩) (.lit (.bool false)))
    have hns : ¬ (room : Int) < (s.size : Int) := by omega
    clear hm hwf h hk
    go_enter Tryz.func99, Tryz.ntmps99
    go_wp2_with (first
      | (go_at_call 98; refine (may_p e.nm (by omega) _).mono ?_; rintro _ w1 ⟨rfl, rfl⟩; rw [HK.out])
      | (at_lookup; refine wpList_lookup_own_ok _ rfl _ _ 62 rfl 9 83 law Tryz.underlying62 ptrElem (zeroP _) (.lit (.bool false)) [] ptr_nil b (nb L).length (D (nb L)) rfl hown _ (kl e.nm) rfl (Go.WideMaps.keyOf_string_mk Tryz.underlying9 (by unfold maxLen; omega)) ?_; intro v ps hv; rw [hat.out] at hv; obtain rfl := ptr_inv hv; rw [hhas.out])
      | (at_builtin; refine wpList_text_append rfl _ _ rfl (.slice ad e.r.t.size cap) e.r.t s rfl rfl HT.out (by omega) ?_; intro v' w1 ht1 hg1 hl1; obtain ⟨ad', cap', rfl⟩ := text_shape ht1
         have kb : w1.heap[e.rb]? = w.heap[e.rb]? := hg1.block _ hrb (fun e1 => hrv _ e1.symm rfl)
         have kc : w1.heap[c]? = w.heap[c]? := hg1.block _ hcw (fun e1 => hcv _ e1.symm rfl)
         have q0 : w1.cell? ⟨e.rb, 0, none⟩ = some (.slice ad e.r.t.size cap) := (by rw [cell_of_block kb]; exact r0)
         have x0 : w1.frozen? ⟨e.rb, 0, none⟩ = false := (by rw [frozen_of_block kb]; exact z0)
         have d0 : w1.cell? ⟨c, 0, none⟩ = some (.int .i64 room) := (by rw [cell_of_block kc]; exact c0)
         have f0 : w1.frozen? ⟨c, 0, none⟩ = false := (by rw [frozen_of_block kc]; exact y0)))
    go_ret
    refine ⟨rfl, ?_⟩
    rw [ByteArray.size_append] at ht1 hl1
    have e1 : ((room - s.size : Nat) : Int) = (room : Int) - (s.size : Int) := by omega
    have hf : ∀ k, k ∈ e.foot → k ∈ foots c (some b) L := fun k hk => by
      unfold foots
      exact List.mem_cons_of_mem _ (List.mem_append_right _ (List.mem_flatMap.2 ⟨e, he, hk⟩))
    have hown : ∀ g, (Value.slice ad e.r.t.size cap).ownBlock = some g → g ∈ e.foot := fun g hg => by
      simp [En.foot, HV.out, hg]
    have kb : w1.heap[e.rb]? = w.heap[e.rb]? := hg1.block _ hrb (fun e1 => hrv _ e1.symm rfl)
    have kc : w1.heap[c]? = w.heap[c]? := hg1.block _ hcw (fun e1 => hcv _ e1.symm rfl)
    have q1 : w1.cell? ⟨e.rb, 1, none⟩ = some (.int .i64 (e.r.p : Int)) := by rw [cell_of_block kb]; exact r1
    have q2 : w1.cell? ⟨e.rb, 2, none⟩ = some (.bool e.r.s) := by rw [cell_of_block kb]; exact r2
    have x1 : w1.frozen? ⟨e.rb, 1, none⟩ = false := by rw [frozen_of_block kb]; exact z1
    have x2 : w1.frozen? ⟨e.rb, 2, none⟩ = false := by rw [frozen_of_block kb]; exact z2
    have d1 : w1.cell? ⟨c, 1, none⟩ = some (.map (some b)) := by rw [cell_of_block kc]; exact c1
    have f1 : w1.frozen? ⟨c, 1, none⟩ = false := by rw [frozen_of_block kc]; exact y1
    have hg' : ∀ g, (Value.slice ad' (e.r.t.size + s.size) cap').ownBlock = some g → g ≠ e.rb ∧ g ≠ c := fun g hg => by
      rcases hl1 g hg with h1 | h1
      · exact ⟨fun e2 => hrv g h1 e2.symm, fun e2 => hcv g h1 e2.symm⟩
      · exact ⟨by omega, by omega⟩
    have hR := RepL.repl HH.out he (e' := ⟨e.nm, e.rb, .slice ad' (e.r.t.size + s.size) cap', ⟨e.r.t ++ s, e.r.p, e.r.s⟩⟩) (room' := room - s.size) (w' := (w1.setCell ⟨e.rb, 0, none⟩ (.slice ad' (e.r.t.size + s.size) cap')).setCell ⟨c, 0, none⟩ (.int .i64 ((room : Int) - (s.size : Int)))) rfl rfl
      (fun g hg => by rw [HV.out]; exact hl1 g hg) ?_ ⟨⟨⟨?_, ?_, ?_⟩, ?_, ?_, ?_⟩, ?_⟩ ?_ HW.out
    · obtain ⟨h1, h2⟩ := hR
      refine ⟨_, ⟨some b, _, h1, (ab_repl L ⟨e.nm, e.rb, .slice ad' (e.r.t.size + s.size) cap', ⟨e.r.t ++ s, e.r.p, e.r.s⟩⟩).symm, rfl⟩, h2, ?_⟩
      refine (((Only.refl _ w).grown hg1 (fun k hk => .inl (hf k (hown k hk)))).setCell (.inl (hf _ (rb_mem e))) _).setCell (.inl ?_) _
      simp [foots]
    · rw [ChAt, e1]
      refine ⟨⟨?_, ?_⟩, ?_, ?_⟩ <;> go_simp
    · go_simp
    · go_simp
    · go_simp
    · go_simp
    · go_simp
    · go_simp
    · exact ht1.kept (fun g hg => by rw [Below.heap_setCell _ _ _ _ (hg' g hg).2, Below.heap_setCell _ _ _ _ (hg' g hg).1])
    · intro k hk hkc hke
      rw [Below.heap_setCell _ _ _ _ hkc, Below.heap_setCell _ _ _ _ (fun e2 => hke (by rw [e2]; exact rb_mem e))]
      exact hg1.block k hk (fun e2 => hke (hown k e2.symm))
end Go.Proofs.YtaacdggjkfmehaaGreatDoor
