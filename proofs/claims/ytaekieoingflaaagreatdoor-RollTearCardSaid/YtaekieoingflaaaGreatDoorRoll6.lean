/-
  roll's Write of a new roll; Write whole.
-/
import Derived.Test.YtaekieoingflaaaGreatDoorRoll5
namespace Go.Proofs.YtaekieoingflaaaGreatDoor
open Go.RowKit Go.Maps Go.Proofs.MapD Go.Proofs.Chest

section
variable {w w' : World} {c room room' : Nat} {m m' : Option Nat} {L : List En} {e0 : En}

/-- A chest with a new roll. -/
theorem RepL.cons (h : RepL w c room m L) (hc : ChAt w' c room' m') (hm : MapN w' m' ((e0.nm, e0.rb) :: nb L)) (he : EnAt w' e0) (hk : ∀ k, k < w.heap.size → k ≠ c → m ≠ some k → w'.heap[k]? = w.heap[k]?)
    (hf : ∀ k ∈ e0.foot, w.heap.size ≤ k) (hm' : m = m' ∨ ∃ b, m' = some b ∧ w.heap.size ≤ b ∧ b ∉ e0.foot) (hee : e0.v.ownBlock ≠ some e0.rb) (hw : Wf ⟨room', (e0.nm, e0.r) :: ab L⟩) :
    RepL w' c room' m' (e0 :: L) ∧ ∀ k ∈ foots c m' (e0 :: L), k ∈ foots c m L ∨ w.heap.size ≤ k := by
  have hcl := h.ch.lt
  have hmold : ∀ b, m' = some b → m = some b ∨ w.heap.size ≤ b := by
    intro b hb
    rcases hm' with h1 | ⟨b', h1, h2, _⟩
    · left; rw [h1, hb]
    · right; rw [hb] at h1; injection h1 with h1; omega
  have hml : ∀ b, m = some b → b < w.heap.size := by intro b hb; subst hb; exact h.map.lt
  refine ⟨⟨hc, hm, ?_, ⟨?_, ?_, ?_, ?_, ?_⟩, hw⟩, ?_⟩
  · intro x hx
    rcases List.mem_cons.1 hx with rfl | hx
    · exact he
    · exact (h.ens x hx).kept (fun k hkx => hk k (h.elt hx hkx) (fun e1 => h.apart.ce x hx (e1 ▸ hkx)) (fun e1 => h.apart.me k e1 x hx hkx))
  · intro b hb
    rcases hmold b hb with h1 | h1
    · exact h.apart.cm b h1
    · omega
  · intro x hx hcx
    rcases List.mem_cons.1 hx with rfl | hx
    · have := hf c hcx; omega
    · exact h.apart.ce x hx hcx
  · intro b hb x hx hbx
    rcases List.mem_cons.1 hx with rfl | hx
    · rcases hm' with h1 | ⟨b', h1, h2, h3⟩
      · have := hml b (by rw [h1, hb]); have := hf b hbx; omega
      · rw [hb] at h1; injection h1 with h1; subst h1; exact h3 hbx
    · rcases hmold b hb with h1 | h1
      · exact h.apart.me b h1 x hx hbx
      · have := h.elt hx hbx; omega
  · intro x hx
    rcases List.mem_cons.1 hx with rfl | hx
    · exact hee
    · exact h.apart.ee x hx
  · rw [List.pairwise_cons]
    refine ⟨fun x hx k hk0 hkx => ?_, h.apart.ll⟩
    have := hf k hk0
    have := h.elt hx hkx
    omega
  · intro k hkf
    unfold foots at hkf ⊢
    rcases List.mem_cons.1 hkf with rfl | hkf
    · left; simp
    · rcases List.mem_append.1 hkf with hkf | hkf
      · rcases hmold k (by simpa using hkf) with h1 | h1
        · left; simp [h1]
        · exact .inr h1
      · rw [List.flatMap_cons] at hkf
        rcases List.mem_append.1 hkf with hkf | hkf
        · exact .inr (hf k hkf)
        · left; exact List.mem_cons_of_mem _ (List.mem_append_right _ hkf)

end

theorem empty_app (s : ByteArray) : (⟨#[]⟩ : ByteArray) ++ s = s := by
  apply ByteArray.ext
  rw [ByteArray.data_append]
  simp

set_option maxRecDepth 100000 in
set_option maxHeartbeats 4000000 in
theorem write_new {w : World} {c room : Nat} {m : Option Nat} {L : List En} (h : RepL w c room m L) (n : ByteArray) (hn : ∀ e ∈ L, e.nm ≠ n) (hL : L.length ≤ 1000000) (s : ByteArray) (hk : okName n = true) (hr : s.size ≤ room) :
    Calls Tryz.prog 19 #[.pointer (some ⟨c, 0, none⟩), .string n, .string s] w fun x w' => x = .returned (.int .i64 0) ∧ Turns w c (foots c m L) ⟨room - s.size, (n, ⟨s, 0, false⟩) :: ab L⟩ w' := by
  have hroom := h.wf.room
  simp only at hroom
  have hrm : room ≤ 1048576 := by omega
  have hnn : n.size ≤ 10 := by
    unfold okName at hk
    simp only [Bool.and_eq_true, decide_eq_true_eq] at hk
    exact hk.1.2
  have hgn : get (ab L) n = none := get_none.2 (fun e he => by
    obtain ⟨a, ha, rfl⟩ := List.mem_map.1 he
    exact hn a ha)
  have hwf : Wf ⟨room - s.size, (n, ⟨s, 0, false⟩) :: ab L⟩ := by
    have := wf_write h.wf n s
    unfold write at this
    rw [if_neg (by rw [hk]; decide), if_neg (by simpa using hr), hgn] at this
    exact this
  have HW := Lib.hid hwf
  have HH := Lib.hid h
  have HK := Lib.hid hk
  have hcw : c < w.heap.size := h.ch.lt
  have HC := Lib.hid h.ch
  obtain ⟨⟨c0, c1⟩, y0, y1⟩ := h.ch
  have hk0 := Go.WideMaps.keyOf_string_mk (P := Tryz.prog) Tryz.underlying9 (s := n) (by unfold maxLen; omega)
  have hm : (m = none ∧ (Instr.lookup 56 (.map none) (.string n) true).run Tryz.prog w = .ok (.tuple #[.pointer none, .bool false]) w) ∨ ∃ b, m = some b ∧ w.ownsMap Tryz.prog 9 ptrElem b (nb L).length (D (nb L)) ∧ Hid (Maps.has (D (nb L)) (kl n) = false) := by
    have hm0 := h.map
    cases m with
    | none =>
      left
      have hlk := Maps.look_nil (P := Tryz.prog) (w := w) true law Tryz.underlying56 (zeroP w) hk0
      simp only [if_pos] at hlk
      exact ⟨rfl, hlk⟩
    | some b => exact .inr ⟨b, rfl, hm0, Lib.hid (has_not hn)⟩
  have hP : ∀ w1 : World, w1 = w.alloc (.cells #[.slice none 0 0, .int .i64 0, .bool false] 67) → Calls Tryz.prog 36 #[.pointer (some ⟨c, 0, none⟩), .string n, .pointer (some ⟨w.heap.size, 0, none⟩)] w1 fun e w' => ∃ b, e = .returned (.tuple #[]) ∧ ChAt w' c room (some b) ∧ MapN w' (some b) ((n, w.heap.size) :: nb L) ∧ Only (c :: m.toList) w1 w' ∧ (m = some b ∨ (m = none ∧ b = w.heap.size + 1)) := by
    intro w1 e1
    have hb : Below w.heap.size w w1 := by rw [e1]; exact (Below.refl _ _).alloc (Nat.le_refl _) _
    have h1 : RepL w1 c room m L := HH.out.kept (fun k hk => hb.block k (HH.out.lt k hk))
    have hsz : w1.heap.size = w.heap.size + 1 := by rw [e1]; simp
    have := rput_p h1.ch h1.map (names_nb h1) h1.apart.cm n (by omega) (by rw [nb, List.length_map]; exact hL) w.heap.size
    have hfil : (nb L).filter (fun e => decide (e.1 ≠ n)) = nb L := List.filter_eq_self.2 (fun e he => by
      obtain ⟨a, ha, rfl⟩ := List.mem_map.1 he
      simpa using hn a ha)
    rw [hfil, hsz] at this
    exact this
  have HP := Lib.hid hP
  clear hP h hwf hk hroom hgn
  have hns : ¬ room < s.size := by omega
  have hsz : (⟨#[]⟩ : ByteArray).size + s.size ≤ 100000000 := by
    have : (⟨#[]⟩ : ByteArray).size = 0 := rfl
    omega
  have HS := Lib.hid hsz
  clear hsz
  rcases hm with ⟨rfl, hlk⟩ | ⟨b, rfl, hown, hhas⟩
  all_goals
    go_enter Tryz.func19, Tryz.ntmps19
    go_wp2_with (first
      | (go_at_call 52; refine (may_p n (by omega) _).mono ?_; rintro _ w1 ⟨rfl, rfl⟩; rw [HK.out])
      | (at_lookup; refine wpList_lookup_own_ok _ rfl _ _ 56 rfl 9 64 law Tryz.underlying56 ptrElem (zeroP _) (.lit (.bool false)) [] ptr_nil b (nb L).length (D (nb L)) rfl hown _ (kl n) rfl hk0 ?_; intro v ps hv; rw [atKey_of_not_has hhas.out] at hv; obtain rfl := ptr_nil_inv hv; rw [hhas.out])
      | (go_at_call 36; refine (HP.out _ rfl).mono ?_; rintro _ w2 ⟨b2, rfl, hc2, hm2, ho2, hb2⟩
         have H2 := Lib.hid (And.intro hm2 (And.intro ho2 hb2)); clear hm2 ho2 hb2
         have k2 : w2.heap[w.heap.size]? = some (.cells #[.slice none 0 0, .int .i64 0, .bool false] 67 (0, 0)) := (by
           rw [H2.out.2.1.block w.heap.size (by simp) (by intro hk; rcases List.mem_cons.1 hk with h1 | h1; omega; have := HH.out.lt w.heap.size (by unfold foots; exact List.mem_cons_of_mem _ (List.mem_append_left _ h1)); omega)]
           exact heap_alloc_new w _)
         have r0 : w2.cell? ⟨w.heap.size, 0, none⟩ = some (.slice none 0 0) := (by unfold World.cell?; rw [k2]; rfl)
         have z0 : w2.frozen? ⟨w.heap.size, 0, none⟩ = false := (by unfold World.frozen?; rw [k2]; rfl)
         have HC2 := Lib.hid hc2
         obtain ⟨⟨d0, d1⟩, f0, f1⟩ := hc2)
      | (at_builtin; refine wpList_text_append rfl _ _ rfl (.slice none 0 0) ⟨#[]⟩ s rfl rfl (text_nil _) HS.out ?_; intro v' w3 ht3 hg3 hl3
         rw [empty_app] at ht3
         obtain ⟨ad', cap', rfl⟩ := text_shape ht3
         have kb : w3.heap[w.heap.size]? = w2.heap[w.heap.size]? := hg3.block _ (World.block_lt_of_cell? w2 _ r0) (by simp [Value.ownBlock])
         have kc : w3.heap[c]? = w2.heap[c]? := hg3.block _ (World.block_lt_of_cell? w2 _ d0) (by simp [Value.ownBlock])
         have q0 : w3.cell? ⟨w.heap.size, 0, none⟩ = some (.slice none 0 0) := (by rw [cell_of_block kb]; exact r0)
         have x0 : w3.frozen? ⟨w.heap.size, 0, none⟩ = false := (by rw [frozen_of_block kb]; exact z0)
         have e0 : w3.cell? ⟨c, 0, none⟩ = some (.int .i64 room) := (by rw [cell_of_block kc]; exact d0)
         have g0 : w3.frozen? ⟨c, 0, none⟩ = false := (by rw [frozen_of_block kc]; exact f0)))
    go_ret
    refine ⟨rfl, ?_⟩
    have e1 : ((room - s.size : Nat) : Int) = (room : Int) - (s.size : Int) := by omega
    obtain ⟨hm2, ho2, hb2⟩ := H2.out
    have hl2 : w.heap.size + 1 ≤ w2.heap.size := by have := ho2.size; simpa using this
    have k3 : w3.heap[w.heap.size]? = some (.cells #[.slice none 0 0, .int .i64 0, .bool false] 67 (0, 0)) := by rw [kb]; exact k2
    have q1 : w3.cell? ⟨w.heap.size, 1, none⟩ = some (.int .i64 0) := by unfold World.cell?; rw [k3]; rfl
    have q2 : w3.cell? ⟨w.heap.size, 2, none⟩ = some (.bool false) := by unfold World.cell?; rw [k3]; rfl
    have x1 : w3.frozen? ⟨w.heap.size, 1, none⟩ = false := by unfold World.frozen?; rw [k3]; rfl
    have x2 : w3.frozen? ⟨w.heap.size, 2, none⟩ = false := by unfold World.frozen?; rw [k3]; rfl
    have e0' : w3.cell? ⟨c, 1, none⟩ = some (.map (some b2)) := by rw [cell_of_block kc]; exact d1
    have g0' : w3.frozen? ⟨c, 1, none⟩ = false := by rw [frozen_of_block kc]; exact f1
    have hcr : c ≠ w.heap.size := by omega
    have hb2l : b2 < w2.heap.size := World.ownsMap.lt hm2
    have hb2n : b2 ≠ c ∧ b2 ≠ w.heap.size := by
      rcases hb2 with h1 | ⟨_, h1⟩
      · refine ⟨fun e2 => HH.out.apart.cm b2 h1 e2.symm, fun e2 => ?_⟩
        have := HH.out.lt b2 (by unfold foots; simp [h1])
        omega
      · omega
    have hg' : ∀ g, (Value.slice ad' s.size cap').ownBlock = some g → w2.heap.size ≤ g := fun g hg => by
      rcases hl3 g hg with h1 | h1
      · cases h1
      · exact h1
    have hR := RepL.cons HH.out (e0 := ⟨n, w.heap.size, .slice ad' s.size cap', ⟨s, 0, false⟩⟩) (room' := room - s.size) (m' := some b2) (w' := (w3.setCell ⟨w.heap.size, 0, none⟩ (.slice ad' s.size cap')).setCell ⟨c, 0, none⟩ (.int .i64 ((room : Int) - (s.size : Int))))
      ?_ ?_ ⟨⟨⟨?_, ?_, ?_⟩, ?_, ?_, ?_⟩, ?_⟩ ?_ ?_ ?_ ?_ HW.out
    · obtain ⟨h1, h2⟩ := hR
      refine ⟨_, ⟨some b2, _, h1, rfl, rfl⟩, h2, ?_⟩
      have o1 : Only (foots c _ L) w w2 := ((Only.refl _ w).alloc _).trans ho2 (fun i hi => .inl (by
        unfold foots
        rcases List.mem_cons.1 hi with h3 | h3
        · rw [h3]; simp
        · exact List.mem_cons_of_mem _ (List.mem_append_left _ h3)))
      refine ((o1.grown hg3 (fun k hk => by cases hk)).setCell (.inr (Nat.le_refl _)) _).setCell (.inl ?_) _
      simp [foots]
    · rw [ChAt, e1]
      refine ⟨⟨?_, ?_⟩, ?_, ?_⟩ <;> go_simp
    · refine MapN.kept hm2 (fun b' hb' => ?_)
      obtain rfl := Option.some.inj hb'
      rw [Below.heap_setCell _ _ _ _ hb2n.1, Below.heap_setCell _ _ _ _ hb2n.2]
      exact hg3.block _ hb2l (by simp [Value.ownBlock])
    · go_simp
    · go_simp
    · go_simp
    · go_simp
    · go_simp
    · go_simp
    · exact ht3.kept (fun g hg => by rw [Below.heap_setCell _ _ _ _ (by have := hg' g hg; simp only; omega), Below.heap_setCell _ _ _ _ (by have := hg' g hg; simp only; omega)])
    · intro k hk hkc hkm
      rw [Below.heap_setCell _ _ _ _ hkc, Below.heap_setCell _ _ _ _ (by simp only; omega), hg3.block k (by omega) (by simp [Value.ownBlock]), ho2.block k (by simp; omega) (fun hi => by rcases List.mem_cons.1 hi with h3 | h3; exact hkc h3; exact hkm (Option.mem_toList.1 h3))]
      exact Below.heap_alloc _ _ _ hk
    · intro k hk
      rcases foot_mem hk with h1 | h1
      · simp only at h1; omega
      · have := hg' k h1; omega
    · rcases hb2 with h1 | ⟨_, h1⟩
      · exact .inl h1
      · refine .inr ⟨b2, rfl, by omega, fun hk => ?_⟩
        rcases foot_mem hk with h3 | h3
        · exact hb2n.2 h3
        · have := hg' b2 h3; omega
    · intro h1
      have := hg' _ h1
      simp only at this
      omega

/-- Write, at a chest. -/
theorem write_p {w : World} {c : Nat} {F : List Nat} {st : St} (h : Rep w c F st) (hL : st.l.length ≤ 1000000) (n s : ByteArray) (hn : n.size ≤ 1000000) :
    Calls Tryz.prog 19 #[.pointer (some ⟨c, 0, none⟩), .string n, .string s] w fun x w' => x = .returned (.int .i64 (write st n s).1) ∧ Turns w c F (write st n s).2 w' := by
  have h0 := h
  obtain ⟨m, L, hR, hl, rfl⟩ := h
  obtain ⟨room, l⟩ := st
  simp only at hR hl hL
  subst hl
  unfold write
  cases hk : okName n with
  | false =>
    rw [if_pos rfl]
    exact (write_form c n s hn hk).mono fun x w' ⟨h1, h2⟩ => ⟨h1, by subst h2; exact Turns.same h0⟩
  | true =>
    rw [if_neg (by decide)]
    by_cases hr : room < s.size
    · rw [if_pos hr]
      exact (write_full hR.ch n s hn hk hr).mono fun x w' ⟨h1, h2⟩ => ⟨h1, by subst h2; exact Turns.same h0⟩
    · rw [if_neg hr]
      rcases get_ab L n with ⟨e, he, rfl, hg⟩ | ⟨he, hg⟩
      · rw [hg]
        exact write_old hR he s hk (by omega)
      · rw [hg]
        exact write_new hR n he (by unfold ab at hL; rw [List.length_map] at hL; exact hL) s hk (by omega)

end Go.Proofs.YtaekieoingflaaaGreatDoor
