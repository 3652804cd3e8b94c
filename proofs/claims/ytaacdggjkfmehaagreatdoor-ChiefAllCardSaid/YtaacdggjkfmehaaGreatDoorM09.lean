/-
  Contracts of the program, and what they rest on.
-/
import Derived.Test.YtaacdggjkfmehaaGreatDoorM04
import Derived.Test.YtaacdggjkfmehaaGreatDoorM08
import Derived.StillTailTactics
namespace Go.Proofs.YtaacdggjkfmehaaGreatDoor
open Go.RowKit Go.Maps Go.Proofs.MapD Go.Proofs.Chest
section
variable {w w' : World} {c room room' : Nat} {m m' : Option Nat} {L : List En} {e0 : En}
theorem RepL.cons (h : RepL w c room m L) (hc : ChAt w' c room' m') (hm : MapN w' m' ((e0.nm, e0.rb) :: nb L)) (he : EnAt w' e0) (hk : ∀ k, k < w.heap.size → k ≠ c → m ≠ some k → w'.heap[k]? = w.heap[k]?)
    (hf : ∀ k ∈ e0.foot, w.heap.size ≤ k) (hm' : m = m' ∨ ∃ b, m' = some b ∧ w.heap.size ≤ b ∧ b ∉ e0.foot) (hee : e0.v.ownBlock ≠ some e0.rb) (hw : Wf ⟨room', (e0.nm, e0.r) :: ab L⟩) :
    RepL w' c room' m' (e0 :: L) ∧ ∀ k ∈ foots c m' (e0 :: L), k ∈ foots c m L ∨ w.heap.size ≤ k := by
  have hcl := h.ch.lt
  have hmold : ∀ b, m' = some b → m = some b ∨ w.heap.size ≤ b := by
    intro b hb
    rcases hm' with h1 | ⟨b', h1, h2, _⟩
    · left; rw [h1, hb]
    · right; rw [hb] at h1; injection h1 with h1; omega
  have hml : ∀ b, m = some b → b < w.heap.size := by intro b hb; subst hb; exact h.map.lt
  refine ⟨⟨hc, hm, ?_, ⟨?_, ?_, ?_, ?_, ?_⟩, hw⟩, ?_⟩
  · intro x hx
    rcases List.mem_cons.1 hx with rfl | hx
    · exact he
    · exact (h.ens x hx).kept (fun k hkx => hk k (h.elt hx hkx) (fun e1 => h.apart.ce x hx (e1 ▸ hkx)) (fun e1 => h.apart.me k e1 x hx hkx))
  · intro b hb
    rcases hmold b hb with h1 | h1
    · exact h.apart.cm b h1
    · omega
  · intro x hx hcx
    rcases List.mem_cons.1 hx with rfl | hx
    · have := hf c hcx; omega
    · exact h.apart.ce x hx hcx
  · intro b hb x hx hbx
    rcases List.mem_cons.1 hx with rfl | hx
    · rcases hm' with h1 | ⟨b', h1, h2, h3⟩
      · have := hml b (by rw [h1, hb]); have := hf b hbx; omega
      · rw [hb] at h1; injection h1 with h1; subst h1; exact h3 hbx
    · rcases hmold b hb with h1 | h1
      · exact h.apart.me b h1 x hx hbx
      · have := h.elt hx hbx; omega
  · intro x hx
    rcases List.mem_cons.1 hx with rfl | hx
    · exact hee
    · exact h.apart.ee x hx
  · rw [List.pairwise_cons]
    refine ⟨fun x hx k hk0 hkx => ?_, h.apart.ll⟩
    have := hf k hk0
    have := h.elt hx hkx
    omega
  · intro k hkf
    unfold foots at hkf ⊢
    rcases List.mem_cons.1 hkf with rfl | hkf
    · left; simp
    · rcases List.mem_append.1 hkf with hkf | hkf
      · rcases hmold k (by simpa using hkf) with h1 | h1
        · left; simp [h1]
        · exact .inr h1
      · rw [List.flatMap_cons] at hkf
        rcases List.mem_append.1 hkf with hkf | hkf
        · exact .inr (hf k hkf)
        · left; exact List.mem_cons_of_mem _ (List.mem_append_right _ hkf)
end
theorem empty_app (s : ByteArray) : (⟨#[]⟩ : ByteArray) ++ s = s := by
  apply ByteArray.ext
  rw [ByteArray.data_append]
  simp
set_option maxRecDepth 100000 in
set_option maxHeartbeats 4000000 in
theorem write_new {w : World} {c room : Nat} {m : Option Nat} {L : List En} (h : RepL w c room m L) (n : ByteArray) (hn : ∀ e ∈ L, e.nm ≠ n) (hL : L.length ≤ 1000000) (s : ByteArray) (hk : okName n = true) (hr : s.size ≤ room) :
    Calls Tryz.prog 99 #[.pointer (some ⟨c, 0, none⟩), .string n, .string s] w fun x w' => x = .returned (.int .i64 0) ∧ Turns w c (foots c m L) ⟨room - s.size, (n, ⟨s, 0, false⟩) :: ab L⟩ w' := by
  have hroom := h.wf.room
  simp only at hroom
  have hrm : room ≤ 1048576 := by omega
  have hnn : n.size ≤ 10 := by
    unfold okName at hk
    simp only [Bool.and_eq_true, decide_eq_true_eq] at hk
    exact hk.1.2
  have hgn : get (ab L) n = none := get_none.2 (fun e he => by
    obtain ⟨a, ha, rfl⟩ := List.mem_map.1 he
    exact hn a ha)
  have hwf : Wf ⟨room - s.size, (n, ⟨s, 0, false⟩) :: ab L⟩ := by
    have := wf_write h.wf n s
    unfold write at this
    rw [if_neg (by rw [hk]; decide), if_neg (by simpa using hr), hgn] at this
    exact this
  have HW := Lib.hid hwf
  have HH := Lib.hid h
  have HK := Lib.hid hk
  have hcw : c < w.heap.size := h.ch.lt
  have HC := Lib.hid h.ch
  obtain ⟨⟨c0, c1⟩, y0, y1⟩ := h.ch
  have hk0 := Go.WideMaps.keyOf_string_mk (P := Tryz.prog) Tryz.underlying9 (s := n) (by unfold maxLen; omega)
  have hm : (m = none ∧ (Instr.lookup 62 (.map none) (.string n) true).run Tryz.prog w = .ok (.tuple #[.pointer none, .bool false]) w) ∨ ∃ b, m = some b ∧ w.ownsMap Tryz.prog 9 ptrElem b (nb L).length (D (nb L)) ∧ Hid (Maps.has (D (nb L)) (kl n) = false) := by
    have hm0 := h.map
    cases m with
    | none =>
      left
      have hlk := Maps.look_nil (P := Tryz.prog) (w := w) true law Tryz.underlying62 (zeroP w) hk0
      simp only [if_pos] at hlk
      exact ⟨rfl, hlk⟩
    | some b => exact .inr ⟨b, rfl, hm0, Lib.hid (has_not hn)⟩
  have hP : ∀ w1 : World, w1 = w.alloc (.cells #[.slice none 0 0, .int .i64 0, .bool false] 87) → Calls Tryz.prog 42 #[.pointer (some ⟨c, 0, none⟩), .string n, .pointer (some ⟨w.heap.size, 0, none⟩)] w1 fun e w' => ∃ b, e = .returned (.tuple #[]) ∧ ChAt w' c room (some b) ∧ MapN w' (some b) ((n, w.heap.size) :: nb L) ∧ Only (c :: m.toList) w1 w' ∧ (m = some b ∨ (m = none ∧ b = w.heap.size + 1)) := by
    intro w1 e1
    have hb : Below w.heap.size w w1 := by rw [e1]; exact (Below.refl _ _).alloc (Nat.le_refl _) _
    have h1 : RepL w1 c room m L := HH.out.kept (fun k hk => hb.block k (HH.out.lt k hk))
    have hsz : w1.heap.size = w.heap.size + 1 := by rw [e1]; simp
    have := rput_p h1.ch h1.map (names_nb h1) h1.apart.cm n (by omega) (by rw [nb, List.length_map]; exact hL) w.heap.size
    have hfil : (nb L).filter (fun e => decide (e.1 ≠ n)) = nb L := List.filter_eq_self.2 (fun e he => by
      obtain ⟨a, ha, rfl⟩ := List.mem_map.1 he
      simpa using hn a ha)
    rw [hfil, hsz] at this
    exact this
  have HP := Lib.hid hP
  clear hP h hwf hk hroom hgn
  have hns : ¬ room < s.size := by omega
  have hsz : (⟨#[]⟩ : ByteArray).size + s.size ≤ 100000000 := by
    have : (⟨#[]⟩ : ByteArray).size = 0 := rfl
    omega
  have HS := Lib.hid hsz
  clear hsz
  rcases hm with ⟨rfl, hlk⟩ | ⟨b, rfl, hown, hhas⟩
  all_goals
    go_enter Tryz.func99, Tryz.ntmps99
    go_wp2_with (first
      | (go_at_call 98; refine (may_p n (by omega) _).mono ?_; rintro _ w1 ⟨rfl, rfl⟩; rw [HK.out])
      | (at_lookup; refine wpList_lookup_own_ok _ rfl _ _ 62 rfl 9 83 law Tryz.underlying62 ptrElem (zeroP _) (.lit (.bool false)) [] ptr_nil b (nb L).length (D (nb L)) rfl hown _ (kl n) rfl hk0 ?_; intro v ps hv; rw [atKey_of_not_has hhas.out] at hv; obtain rfl := ptr_nil_inv hv; rw [hhas.out])
      | (go_at_call 42; refine (HP.out _ rfl).mono ?_; rintro _ w2 ⟨b2, rfl, hc2, hm2, ho2, hb2⟩
         have H2 := Lib.hid (And.intro hm2 (And.intro ho2 hb2)); clear hm2 ho2 hb2
         have k2 : w2.heap[w.heap.size]? = some (.cells #[.slice none 0 0, .int .i64 0, .bool false] 87 (0, 0)) := (by
           rw [H2.out.2.1.block w.heap.size (by simp) (by intro hk; rcases List.mem_cons.1 hk with h1 | h1; omega; have := HH.out.lt w.heap.size (by unfold foots; exact List.mem_cons_of_mem _ (List.mem_append_left _ h1)); omega)]
           exact heap_alloc_new w _)
         have r0 : w2.cell? ⟨w.heap.size, 0, none⟩ = some (.slice none 0 0) := (by unfold World.cell?; rw [k2]; rfl)
         have z0 : w2.frozen? ⟨w.heap.size, 0, none⟩ = false := (by unfold World.frozen?; rw [k2]; rfl)
         have HC2 := Lib.hid hc2
         obtain ⟨⟨d0, d1⟩, f0, f1⟩ := hc2)
      | (at_builtin; refine wpList_text_append rfl _ _ rfl (.slice none 0 0) ⟨#[]⟩ s rfl rfl (text_nil _) HS.out ?_; intro v' w3 ht3 hg3 hl3
         rw [empty_app] at ht3
         obtain ⟨ad', cap', rfl⟩ := text_shape ht3
         have kb : w3.heap[w.heap.size]? = w2.heap[w.heap.size]? := hg3.block _ (World.block_lt_of_cell? w2 _ r0) (by simp [Value.ownBlock])
         have kc : w3.heap[c]? = w2.heap[c]? := hg3.block _ (World.block_lt_of_cell? w2 _ d0) (by simp [Value.ownBlock])
         have q0 : w3.cell? ⟨w.heap.size, 0, none⟩ = some (.slice none 0 0) := (by rw [cell_of_block kb]; exact r0)
         have x0 : w3.frozen? ⟨w.heap.size, 0, none⟩ = false := (by rw [frozen_of_block kb]; exact z0)
         have e0 : w3.cell? ⟨c, 0, none⟩ = some (.int .i64 room) := (by rw [cell_of_block kc]; exact d0)
         have g0 : w3.frozen? ⟨c, 0, none⟩ = false := (by rw [frozen_of_block kc]; exact f0)))
    go_ret
    refine ⟨rfl, ?_⟩
    have e1 : ((room - s.size : Nat) : Int) = (room : Int) - (s.size : Int) := by omega
    obtain ⟨hm2, ho2, hb2⟩ := H2.out
    have hl2 : w.heap.size + 1 ≤ w2.heap.size := by have := ho2.size; simpa using this
    have k3 : w3.heap[w.heap.size]? = some (.cells #[.slice none 0 0, .int .i64 0, .bool false] 87 (0, 0)) := by rw [kb]; exact k2
    have q1 : w3.cell? ⟨w.heap.size, 1, none⟩ = some (.int .i64 0) := by unfold World.cell?; rw [k3]; rfl
    have q2 : w3.cell? ⟨w.heap.size, 2, none⟩ = some (.bool false) := by unfold World.cell?; rw [k3]; rfl
    have x1 : w3.frozen? ⟨w.heap.size, 1, none⟩ = false := by unfold World.frozen?; rw [k3]; rfl
    have x2 : w3.frozen? ⟨w.heap.size, 2, none⟩ = false := by unfold World.frozen?; rw [k3]; rfl
    have e0' : w3.cell? ⟨c, 1, none⟩ = some (.map (some b2)) := by rw [cell_of_block kc]; exact d1
    have g0' : w3.frozen? ⟨c, 1, none⟩ = false := by rw [frozen_of_block kc]; exact f1
    have hcr : c ≠ w.heap.size := by omega
    have hb2l : b2 < w2.heap.size := World.ownsMap.lt hm2
    have hb2n : b2 ≠ c ∧ b2 ≠ w.heap.size := by
      rcases hb2 with h1 | ⟨_, h1⟩
      · refine ⟨fun e2 => HH.out.apart.cm b2 h1 e2.symm, fun e2 => ?_⟩
        have := HH.out.lt b2 (by unfold foots; simp [h1])
        omega
      · omega
    have hg' : ∀ g, (Value.slice ad' s.size cap').ownBlock = some g → w2.heap.size ≤ g := fun g hg => by
      rcases hl3 g hg with h1 | h1
      · cases h1
      · exact h1
    have hR := RepL.cons HH.out (e0 := ⟨n, w.heap.size, .slice ad' s.size cap', ⟨s, 0, false⟩⟩) (room' := room - s.size) (m' := some b2) (w' := (w3.setCell ⟨w.heap.size, 0, none⟩ (.slice ad' s.size cap')).setCell ⟨c, 0, none⟩ (.int .i64 ((room : Int) - (s.size : Int))))
      ?_ ?_ ⟨⟨⟨?_, ?_, ?_⟩, ?_, ?_, ?_⟩, ?_⟩ ?_ ?_ ?_ ?_ HW.out
    · obtain ⟨h1, h2⟩ := hR
      refine ⟨_, ⟨some b2, _, h1, rfl, rfl⟩, h2, ?_⟩
      have o1 : Only (foots c _ L) w w2 := ((Only.refl _ w).alloc _).trans ho2 (fun i hi => .inl (by
        unfold foots
        rcases List.mem_cons.1 hi with h3 | h3
        · rw [h3]; simp
        · exact List.mem_cons_of_mem _ (List.mem_append_left _ h3)))
      refine ((o1.grown hg3 (fun k hk => by cases hk)).setCell (.inr (Nat.le_refl _)) _).setCell (.inl ?_) _
      simp [foots]
    · rw [ChAt, e1]
      refine ⟨⟨?_, ?_⟩, ?_, ?_⟩ <;> go_simp
    · refine MapN.kept hm2 (fun b' hb' => ?_)
      obtain rfl := Option.some.inj hb'
      rw [Below.heap_setCell _ _ _ _ hb2n.1, Below.heap_setCell _ _ _ _ hb2n.2]
      exact hg3.block _ hb2l (by simp [Value.ownBlock])
    · go_simp
    · go_simp
    · go_simp
    · go_simp
    · go_simp
    · go_simp
    · exact ht3.kept (fun g hg => by rw [Below.heap_setCell _ _ _ _ (by have := hg' g hg; simp only; omega), Below.heap_setCell _ _ _ _ (by have := hg' g hg; simp only; omega)])
    · intro k hk hkc hkm
      rw [Below.heap_setCell _ _ _ _ hkc, Below.heap_setCell _ _ _ _ (by simp only; omega), hg3.block k (by omega) (by simp [Value.ownBlock]), ho2.block k (by simp; omega) (fun hi => by rcases List.mem_cons.1 hi with h3 | h3; exact hkc h3; exact hkm (Option.mem_toList.1 h3))]
      exact Below.heap_alloc _ _ _ hk
    · intro k hk
      rcases foot_mem hk with h1 | h1
      · simp only at h1; omega
      · have := hg' k h1; omega
    · rcases hb2 with h1 | ⟨_, h1⟩
      · exact .inl h1
      · refine .inr ⟨b2, rfl, by omega, fun hk => ?_⟩
        rcases foot_mem hk with h3 | h3
        · exact hb2n.2 h3
        · have := hg' b2 h3; omega
    · intro h1
      have := hg' _ h1
      simp only at this
      omega
theorem write_p {w : World} {c : Nat} {F : List Nat} {st : St} (h : Rep w c F st) (hL : st.l.length ≤ 1000000) (n s : ByteArray) (hn : n.size ≤ 1000000) :
    Calls Tryz.prog 99 #[.pointer (some ⟨c, 0, none⟩), .string n, .string s] w fun x w' => x = .returned (.int .i64 (write st n s).1) ∧ Turns w c F (write st n s).2 w' := by
  have h0 := h
  obtain ⟨m, L, hR, hl, rfl⟩ := h
  obtain ⟨room, l⟩ := st
  simp only at hR hl hL
  subst hl
  unfold write
  cases hk : okName n with
  | false =>
    rw [if_pos rfl]
    exact (write_form c n s hn hk).mono fun x w' ⟨h1, h2⟩ => ⟨h1, by subst h2; exact Turns.same h0⟩
  | true =>
    rw [if_neg (by decide)]
    by_cases hr : room < s.size
    · rw [if_pos hr]
      exact (write_full hR.ch n s hn hk hr).mono fun x w' ⟨h1, h2⟩ => ⟨h1, by subst h2; exact Turns.same h0⟩
    · rw [if_neg hr]
      rcases get_ab L n with ⟨e, he, rfl, hg⟩ | ⟨he, hg⟩
      · rw [hg]
        exact write_old hR he s hk (by omega)
      · rw [hg]
        exact write_new hR n he (by unfold ab at hL; rw [List.length_map] at hL; exact hL) s hk (by omega)
end Go.Proofs.YtaacdggjkfmehaaGreatDoor
namespace Go.Proofs.YtaacdggjkfmehaaGreatDoor
open Go.RowKit Go.Maps Go.Proofs.MapD Go.Proofs.Chest
set_option maxRecDepth 100000 in
set_option maxHeartbeats 4000000 in
theorem press_old {w : World} {c room : Nat} {m : Option Nat} {L : List En} (h : RepL w c room m L) {e : En} (he : e ∈ L) :
    Calls Tryz.prog 100 #[.pointer (some ⟨c, 0, none⟩), .string e.nm] w fun x w' => x = .returned (.int .i64 0) ∧ Turns w c (foots c m L) ⟨room, Chest.set (ab L) e.nm ⟨e.r.t, e.r.t.size, true⟩⟩ w' := by
  have hT := (h.ens e he).2
  have hroom := h.wf.room
  have hts : e.r.t.size ≤ total (ab L) := total_le (e := (e.nm, e.r)) (List.mem_map.2 ⟨e, he, rfl⟩ : (e.nm, e.r) ∈ ab L)
  have hpr : e.r.p ≤ e.r.t.size := h.wf.pressed (e.nm, e.r) (List.mem_map.2 ⟨e, he, rfl⟩)
  have hnn : okName e.nm = true := h.wf.names (e.nm, e.r) (List.mem_map.2 ⟨e, he, rfl⟩)
  have hn10 : e.nm.size ≤ 10 := by
    unfold okName at hnn
    simp only [Bool.and_eq_true, decide_eq_true_eq] at hnn
    exact hnn.1.2
  simp only at hroom
  have hsz : e.r.t.size ≤ 1048576 := by omega
  have hrb : e.rb < w.heap.size := h.elt he (rb_mem e)
  have hcw : c < w.heap.size := h.ch.lt
  have hcb : c ≠ e.rb := fun e1 => h.apart.ce e he (by rw [e1]; exact rb_mem e)
  obtain ⟨⟨r0, r1, r2⟩, z0, z1, z2⟩ := (h.ens e he).1
  obtain ⟨⟨c0, c1⟩, y0, y1⟩ := h.ch
  obtain ⟨ad, cap, hv⟩ := text_shape hT
  rw [hv] at r0
  have HV := Lib.hid hv
  have HF := Lib.hid (find_some h he (by unfold maxLen; omega))
  have HH := Lib.hid h
  have HT := Lib.hid hT
  clear hT hv hnn
  have hwf : Wf ⟨room, Chest.set (ab L) e.nm ⟨e.r.t, e.r.t.size, true⟩⟩ := by
    have hg : get (ab L) e.nm = some e.r := get_of_mem h.wf.apart (List.mem_map.2 ⟨e, he, rfl⟩)
    have := wf_press h.wf e.nm
    unfold press at this
    rw [hg] at this
    exact this
  have HW := Lib.hid hwf
  clear h hwf
  go_enter Tryz.func100, Tryz.ntmps100
  go_wp2_with (go_at_call 77; refine HF.out.mono ?_; rintro _ w1 ⟨rfl, rfl⟩)
  go_ret
  refine ⟨rfl, ?_⟩
  have hR := RepL.repl HH.out he (e' := ⟨e.nm, e.rb, e.v, ⟨e.r.t, e.r.t.size, true⟩⟩) (room' := room) (w' := (w.setCell ⟨e.rb, 1, none⟩ (.int .i64 (e.r.t.size : Int))).setCell ⟨e.rb, 2, none⟩ (.bool true)) rfl rfl
    (fun g hg => .inl hg) ?_ ⟨⟨⟨?_, ?_, ?_⟩, ?_, ?_, ?_⟩, ?_⟩ ?_ HW.out
  · obtain ⟨h1, h2⟩ := hR
    refine ⟨_, ⟨m, _, h1, (ab_repl L ⟨e.nm, e.rb, e.v, ⟨e.r.t, e.r.t.size, true⟩⟩).symm, rfl⟩, h2, ?_⟩
    have hf : e.rb ∈ foots c m L := by
      unfold foots
      exact List.mem_cons_of_mem _ (List.mem_append_right _ (List.mem_flatMap.2 ⟨e, he, rb_mem e⟩))
    exact ((Only.refl _ w).setCell (.inl hf) _).setCell (.inl hf) _
  · refine HH.out.ch.kept ?_
    rw [Below.heap_setCell _ _ _ _ hcb, Below.heap_setCell _ _ _ _ hcb]
  · show World.cell? _ _ = some e.v
    rw [HV.out]
    go_simp
  · go_simp
  · go_simp
  · go_simp
  · go_simp
  · go_simp
  · refine HT.out.kept (fun g hg => ?_)
    have : g ≠ e.rb := fun e1 => HH.out.apart.ee e he (by rw [← e1]; exact hg)
    rw [Below.heap_setCell _ _ _ _ this, Below.heap_setCell _ _ _ _ this]
  · intro k hk hkc hke
    have : k ≠ e.rb := fun e1 => hke (by rw [e1]; exact rb_mem e)
    rw [Below.heap_setCell _ _ _ _ this, Below.heap_setCell _ _ _ _ this]
set_option maxRecDepth 100000 in
set_option maxHeartbeats 4000000 in
theorem press_none {w : World} {c room : Nat} {m : Option Nat} {L : List En} (h : RepL w c room m L) (n : ByteArray) (hn : ∀ e ∈ L, e.nm ≠ n) (hs : n.size ≤ 1000000) :
    Calls Tryz.prog 100 #[.pointer (some ⟨c, 0, none⟩), .string n] w fun x w' => x = .returned (.int .i64 6) ∧ w = w' := by
  go_enter Tryz.func100, Tryz.ntmps100
  go_wp2_with (go_at_call 77; refine (find_none h n hn (by unfold maxLen; omega)).mono ?_; rintro _ w1 ⟨rfl, rfl⟩)
  go_ret
  exact ⟨rfl, rfl⟩
theorem text_conv {w : World} {v : Value} {t : ByteArray} (h : Text w v t) : (convert 85 9 v).run Tryz.prog w = .ok (.string t) w := conv_owned h
set_option maxRecDepth 100000 in
set_option maxHeartbeats 4000000 in
theorem read_old {w : World} {c room : Nat} {m : Option Nat} {L : List En} (h : RepL w c room m L) {e : En} (he : e ∈ L) :
    Calls Tryz.prog 47 #[.pointer (some ⟨c, 0, none⟩), .string e.nm] w fun x w' => x = .returned (.tuple #[.string e.r.t, .bool true]) ∧ w = w' := by
  have hT := (h.ens e he).2
  have hroom := h.wf.room
  have hts : e.r.t.size ≤ total (ab L) := total_le (e := (e.nm, e.r)) (List.mem_map.2 ⟨e, he, rfl⟩ : (e.nm, e.r) ∈ ab L)
  have hpr : e.r.p ≤ e.r.t.size := h.wf.pressed (e.nm, e.r) (List.mem_map.2 ⟨e, he, rfl⟩)
  have hnn : okName e.nm = true := h.wf.names (e.nm, e.r) (List.mem_map.2 ⟨e, he, rfl⟩)
  have hn10 : e.nm.size ≤ 10 := by
    unfold okName at hnn
    simp only [Bool.and_eq_true, decide_eq_true_eq] at hnn
    exact hnn.1.2
  simp only at hroom
  have hsz : e.r.t.size ≤ 1048576 := by omega
  have hrb : e.rb < w.heap.size := h.elt he (rb_mem e)
  have hcw : c < w.heap.size := h.ch.lt
  have hcb : c ≠ e.rb := fun e1 => h.apart.ce e he (by rw [e1]; exact rb_mem e)
  obtain ⟨⟨r0, r1, r2⟩, z0, z1, z2⟩ := (h.ens e he).1
  obtain ⟨⟨c0, c1⟩, y0, y1⟩ := h.ch
  obtain ⟨ad, cap, hv⟩ := text_shape hT
  rw [hv] at r0
  have HV := Lib.hid hv
  have HF := Lib.hid (find_some h he (by unfold maxLen; omega))
  have HH := Lib.hid h
  have HT := Lib.hid hT
  clear hT hv hnn
  have hcv := text_conv HT.out
  rw [HV.out] at hcv
  go_enter Tryz.func47, Tryz.ntmps47
  go_wp2_with (go_at_call 77; refine HF.out.mono ?_; rintro _ w1 ⟨rfl, rfl⟩)
  exact bodyPost_ret (v := .tuple #[.string e.r.t, .bool true]) (by simp [results, Tryz.results47, go_sem]) rfl ⟨rfl, rfl⟩
set_option maxRecDepth 100000 in
set_option maxHeartbeats 4000000 in
theorem read_none {w : World} {c room : Nat} {m : Option Nat} {L : List En} (h : RepL w c room m L) (n : ByteArray) (hn : ∀ e ∈ L, e.nm ≠ n) (hs : n.size ≤ 1000000) :
    Calls Tryz.prog 47 #[.pointer (some ⟨c, 0, none⟩), .string n] w fun x w' => x = .returned (.tuple #[.string ⟨#[]⟩, .bool false]) ∧ w = w' := by
  go_enter Tryz.func47, Tryz.ntmps47
  go_wp2_with (go_at_call 77; refine (find_none h n hn (by unfold maxLen; omega)).mono ?_; rintro _ w1 ⟨rfl, rfl⟩)
  exact bodyPost_ret (v := .tuple #[.string ⟨#[]⟩, .bool false]) (by simp [results, Tryz.results47, go_sem]) rfl ⟨rfl, rfl⟩
set_option maxRecDepth 100000 in
set_option maxHeartbeats 4000000 in
theorem pressed_old {w : World} {c room : Nat} {m : Option Nat} {L : List En} (h : RepL w c room m L) {e : En} (he : e ∈ L) :
    Calls Tryz.prog 110 #[.pointer (some ⟨c, 0, none⟩), .string e.nm] w fun x w' => x = .returned (.int .i64 (e.r.p : Int)) ∧ w = w' := by
  have hT := (h.ens e he).2
  have hroom := h.wf.room
  have hts : e.r.t.size ≤ total (ab L) := total_le (e := (e.nm, e.r)) (List.mem_map.2 ⟨e, he, rfl⟩ : (e.nm, e.r) ∈ ab L)
  have hpr : e.r.p ≤ e.r.t.size := h.wf.pressed (e.nm, e.r) (List.mem_map.2 ⟨e, he, rfl⟩)
  have hnn : okName e.nm = true := h.wf.names (e.nm, e.r) (List.mem_map.2 ⟨e, he, rfl⟩)
  have hn10 : e.nm.size ≤ 10 := by
    unfold okName at hnn
    simp only [Bool.and_eq_true, decide_eq_true_eq] at hnn
    exact hnn.1.2
  simp only at hroom
  have hsz : e.r.t.size ≤ 1048576 := by omega
  have hrb : e.rb < w.heap.size := h.elt he (rb_mem e)
  have hcw : c < w.heap.size := h.ch.lt
  have hcb : c ≠ e.rb := fun e1 => h.apart.ce e he (by rw [e1]; exact rb_mem e)
  obtain ⟨⟨r0, r1, r2⟩, z0, z1, z2⟩ := (h.ens e he).1
  obtain ⟨⟨c0, c1⟩, y0, y1⟩ := h.ch
  obtain ⟨ad, cap, hv⟩ := text_shape hT
  rw [hv] at r0
  have HV := Lib.hid hv
  have HF := Lib.hid (find_some h he (by unfold maxLen; omega))
  have HH := Lib.hid h
  have HT := Lib.hid hT
  clear hT hv hnn
  go_enter Tryz.func110, Tryz.ntmps110
  go_wp2_with (go_at_call 77; refine HF.out.mono ?_; rintro _ w1 ⟨rfl, rfl⟩)
  go_ret
  exact ⟨rfl, rfl⟩
set_option maxRecDepth 100000 in
set_option maxHeartbeats 4000000 in
theorem pressed_none {w : World} {c room : Nat} {m : Option Nat} {L : List En} (h : RepL w c room m L) (n : ByteArray) (hn : ∀ e ∈ L, e.nm ≠ n) (hs : n.size ≤ 1000000) :
    Calls Tryz.prog 110 #[.pointer (some ⟨c, 0, none⟩), .string n] w fun x w' => x = .returned (.int .i64 0) ∧ w = w' := by
  go_enter Tryz.func110, Tryz.ntmps110
  go_wp2_with (go_at_call 77; refine (find_none h n hn (by unfold maxLen; omega)).mono ?_; rintro _ w1 ⟨rfl, rfl⟩)
  go_ret
  exact ⟨rfl, rfl⟩
set_option maxRecDepth 100000 in
set_option maxHeartbeats 4000000 in
theorem room_l {w : World} {c room : Nat} {m : Option Nat} {L : List En} (h : RepL w c room m L) :
    Calls Tryz.prog 111 #[.pointer (some ⟨c, 0, none⟩)] w fun x w' => x = .returned (.int .i64 (room : Int)) ∧ w = w' := by
  obtain ⟨⟨c0, c1⟩, y0, y1⟩ := h.ch
  go_enter Tryz.func111, Tryz.ntmps111
  go_wp2_with (fail)
  go_ret
  exact ⟨rfl, rfl⟩
end Go.Proofs.YtaacdggjkfmehaaGreatDoor
namespace Go.Proofs.YtaacdggjkfmehaaGreatDoor
open Go.RowKit Go.Maps Go.Proofs.MapD Go.Proofs.Chest
set_option maxRecDepth 100000 in
set_option maxHeartbeats 4000000 in
theorem cut_none {w : World} {c room : Nat} {m : Option Nat} {L : List En} (h : RepL w c room m L) (n : ByteArray) (hn : ∀ e ∈ L, e.nm ≠ n) (hs : n.size ≤ 1000000) (k : Int) :
    Calls Tryz.prog 50 #[.pointer (some ⟨c, 0, none⟩), .string n, .int .i64 k] w fun x w' => x = .returned (.int .i64 6) ∧ w = w' := by
  go_enter Tryz.func50, Tryz.ntmps50
  go_wp2_with (go_at_call 77; refine (find_none h n hn (by unfold maxLen; omega)).mono ?_; rintro _ w1 ⟨rfl, rfl⟩)
  go_ret
  exact ⟨rfl, rfl⟩
set_option maxRecDepth 100000 in
set_option maxHeartbeats 4000000 in
theorem cut_below {w : World} {c room : Nat} {m : Option Nat} {L : List En} (h : RepL w c room m L) {e : En} (he : e ∈ L) (k : Int) (hk : k < 0) :
    Calls Tryz.prog 50 #[.pointer (some ⟨c, 0, none⟩), .string e.nm, .int .i64 k] w fun x w' => x = .returned (.int .i64 4) ∧ w = w' := by
  have hT := (h.ens e he).2
  have hroom := h.wf.room
  have hts : e.r.t.size ≤ total (ab L) := total_le (e := (e.nm, e.r)) (List.mem_map.2 ⟨e, he, rfl⟩ : (e.nm, e.r) ∈ ab L)
  have hpr : e.r.p ≤ e.r.t.size := h.wf.pressed (e.nm, e.r) (List.mem_map.2 ⟨e, he, rfl⟩)
  have hnn : okName e.nm = true := h.wf.names (e.nm, e.r) (List.mem_map.2 ⟨e, he, rfl⟩)
  have hn10 : e.nm.size ≤ 10 := by
    unfold okName at hnn
    simp only [Bool.and_eq_true, decide_eq_true_eq] at hnn
    exact hnn.1.2
  simp only at hroom
  have hsz : e.r.t.size ≤ 1048576 := by omega
  have hrb : e.rb < w.heap.size := h.elt he (rb_mem e)
  have hcw : c < w.heap.size := h.ch.lt
  have hcb : c ≠ e.rb := fun e1 => h.apart.ce e he (by rw [e1]; exact rb_mem e)
  obtain ⟨⟨r0, r1, r2⟩, z0, z1, z2⟩ := (h.ens e he).1
  obtain ⟨⟨c0, c1⟩, y0, y1⟩ := h.ch
  obtain ⟨ad, cap, hv⟩ := text_shape hT
  rw [hv] at r0
  have HV := Lib.hid hv
  have HF := Lib.hid (find_some h he (by unfold maxLen; omega))
  have HH := Lib.hid h
  have HT := Lib.hid hT
  clear hT hv hnn
  go_enter Tryz.func50, Tryz.ntmps50
  go_wp2_with (go_at_call 77; refine HF.out.mono ?_; rintro _ w1 ⟨rfl, rfl⟩)
  go_ret
  exact ⟨rfl, rfl⟩
set_option maxRecDepth 100000 in
set_option maxHeartbeats 4000000 in
theorem cut_above {w : World} {c room : Nat} {m : Option Nat} {L : List En} (h : RepL w c room m L) {e : En} (he : e ∈ L) (k : Int) (hk : ¬ k < 0) (hk1 : (e.r.t.size : Int) < k) :
    Calls Tryz.prog 50 #[.pointer (some ⟨c, 0, none⟩), .string e.nm, .int .i64 k] w fun x w' => x = .returned (.int .i64 4) ∧ w = w' := by
  have hT := (h.ens e he).2
  have hroom := h.wf.room
  have hts : e.r.t.size ≤ total (ab L) := total_le (e := (e.nm, e.r)) (List.mem_map.2 ⟨e, he, rfl⟩ : (e.nm, e.r) ∈ ab L)
  have hpr : e.r.p ≤ e.r.t.size := h.wf.pressed (e.nm, e.r) (List.mem_map.2 ⟨e, he, rfl⟩)
  have hnn : okName e.nm = true := h.wf.names (e.nm, e.r) (List.mem_map.2 ⟨e, he, rfl⟩)
  have hn10 : e.nm.size ≤ 10 := by
    unfold okName at hnn
    simp only [Bool.and_eq_true, decide_eq_true_eq] at hnn
    exact hnn.1.2
  simp only at hroom
  have hsz : e.r.t.size ≤ 1048576 := by omega
  have hrb : e.rb < w.heap.size := h.elt he (rb_mem e)
  have hcw : c < w.heap.size := h.ch.lt
  have hcb : c ≠ e.rb := fun e1 => h.apart.ce e he (by rw [e1]; exact rb_mem e)
  obtain ⟨⟨r0, r1, r2⟩, z0, z1, z2⟩ := (h.ens e he).1
  obtain ⟨⟨c0, c1⟩, y0, y1⟩ := h.ch
  obtain ⟨ad, cap, hv⟩ := text_shape hT
  rw [hv] at r0
  have HV := Lib.hid hv
  have HF := Lib.hid (find_some h he (by unfold maxLen; omega))
  have HH := Lib.hid h
  have HT := Lib.hid hT
  clear hT hv hnn
  go_enter Tryz.func50, Tryz.ntmps50
  go_wp2_with (go_at_call 77; refine HF.out.mono ?_; rintro _ w1 ⟨rfl, rfl⟩)
  go_ret
  exact ⟨rfl, rfl⟩
set_option maxRecDepth 100000 in
set_option maxHeartbeats 4000000 in
theorem cut_old {w : World} {c room : Nat} {m : Option Nat} {L : List En} (h : RepL w c room m L) {e : En} (he : e ∈ L) (k : Nat) (hk : k ≤ e.r.t.size) :
    Calls Tryz.prog 50 #[.pointer (some ⟨c, 0, none⟩), .string e.nm, .int .i64 k] w fun x w' => x = .returned (.int .i64 0) ∧ Turns w c (foots c m L) ⟨room + (e.r.t.size - k), Chest.set (ab L) e.nm ⟨e.r.t.extract 0 k, min e.r.p k, true⟩⟩ w' := by
  have hT := (h.ens e he).2
  have hroom := h.wf.room
  have hts : e.r.t.size ≤ total (ab L) := total_le (e := (e.nm, e.r)) (List.mem_map.2 ⟨e, he, rfl⟩ : (e.nm, e.r) ∈ ab L)
  have hpr : e.r.p ≤ e.r.t.size := h.wf.pressed (e.nm, e.r) (List.mem_map.2 ⟨e, he, rfl⟩)
  have hnn : okName e.nm = true := h.wf.names (e.nm, e.r) (List.mem_map.2 ⟨e, he, rfl⟩)
  have hn10 : e.nm.size ≤ 10 := by
    unfold okName at hnn
    simp only [Bool.and_eq_true, decide_eq_true_eq] at hnn
    exact hnn.1.2
  simp only at hroom
  have hsz : e.r.t.size ≤ 1048576 := by omega
  have hrb : e.rb < w.heap.size := h.elt he (rb_mem e)
  have hcw : c < w.heap.size := h.ch.lt
  have hcb : c ≠ e.rb := fun e1 => h.apart.ce e he (by rw [e1]; exact rb_mem e)
  obtain ⟨⟨r0, r1, r2⟩, z0, z1, z2⟩ := (h.ens e he).1
  obtain ⟨⟨c0, c1⟩, y0, y1⟩ := h.ch
  obtain ⟨ad, cap, hv⟩ := text_shape hT
  rw [hv] at r0
  have HV := Lib.hid hv
  have HF := Lib.hid (find_some h he (by unfold maxLen; omega))
  have HH := Lib.hid h
  have HT := Lib.hid hT
  clear hT hv hnn
  have hwf : Wf ⟨room + (e.r.t.size - k), Chest.set (ab L) e.nm ⟨e.r.t.extract 0 k, min e.r.p k, true⟩⟩ := by
    have hg : get (ab L) e.nm = some e.r := get_of_mem h.wf.apart (List.mem_map.2 ⟨e, he, rfl⟩)
    have := wf_cut h.wf e.nm k
    unfold cut at this
    rw [hg] at this
    simp only at this
    rw [if_neg (by omega)] at this
    exact this
  have HW := Lib.hid hwf
  have k1 : ¬ (k : Int) < 0 := by omega
  have k2 : ¬ (e.r.t.size : Int) < (k : Int) := by omega
  have k2' : ¬ e.r.t.size < k := by omega
  have s1 : IntKind.i64.wrap ((e.r.t.size : Int) - (k : Int)) = (e.r.t.size : Int) - (k : Int) := IntWalk.i64_in _ (by omega)
  have s2 : IntKind.i64.wrap ((room : Int) + ((e.r.t.size : Int) - (k : Int))) = (room : Int) + ((e.r.t.size : Int) - (k : Int)) := IntWalk.i64_in _ (by omega)
  clear h hwf
  go_enter Tryz.func50, Tryz.ntmps50
  go_wp2_with (go_at_call 77; refine HF.out.mono ?_; rintro _ w1 ⟨rfl, rfl⟩)
  go_still_tail 14, (by kernel_rfl)
  go_wp2_with fail
  have h1 : Only (foots c m L) w (w.setCell ⟨c, 0, none⟩ (.int .i64 ((room : Int) + ((e.r.t.size : Int) - (k : Int))))).drew := ((Only.refl _ w).setCell (.inl (by simp [foots])) _).drew
  have kb1 : (w.setCell ⟨c, 0, none⟩ (.int .i64 ((room : Int) + ((e.r.t.size : Int) - (k : Int))))).drew.heap[e.rb]? = w.heap[e.rb]? := Below.heap_setCell _ _ _ _ (fun e1 => hcb e1.symm)
  have ko1 : ∀ j, j ≠ c → (w.setCell ⟨c, 0, none⟩ (.int .i64 ((room : Int) + ((e.r.t.size : Int) - (k : Int))))).drew.heap[j]? = w.heap[j]? := fun j hj => Below.heap_setCell _ _ _ _ hj
  have hc1 : ChAt (w.setCell ⟨c, 0, none⟩ (.int .i64 ((room : Int) + ((e.r.t.size : Int) - (k : Int))))).drew c (room + (e.r.t.size - k)) m := by
    have e1 : ((room + (e.r.t.size - k) : Nat) : Int) = (room : Int) + ((e.r.t.size : Int) - (k : Int)) := by omega
    rw [ChAt, e1]
    refine ⟨⟨?_, ?_⟩, ?_, ?_⟩ <;> go_simp
  generalize (w.setCell ⟨c, 0, none⟩ (.int .i64 ((room : Int) + ((e.r.t.size : Int) - (k : Int))))).drew = W1 at *
  have ht1 : Text W1 (.slice ad e.r.t.size cap) e.r.t := by
    rw [← HV.out]
    exact HT.out.kept (fun g hg => ko1 g (fun e1 => HH.out.apart.ce e he (by rw [← e1]; simp [En.foot, hg])))
  have H1 := Lib.hid (And.intro h1 (And.intro kb1 (And.intro ko1 hc1)))
  have hr1 : e.rb < W1.heap.size := Nat.lt_of_lt_of_le hrb h1.size
  clear h1 kb1 ko1 hc1 c0 c1 y0 y1
  refine (shorten_p ht1 (by omega) k hk).mono ?_
  rintro _ w2 ⟨v', rfl, ht2, hb2, hl2⟩
  obtain ⟨ad', cap', rfl⟩ := text_shape ht2
  have ez : (e.r.t.extract 0 k).size = k := by rw [ByteArray.size_extract]; omega
  rw [ez] at ht2 hl2 ⊢
  have H2 := Lib.hid (And.intro ht2 (And.intro hb2 hl2))
  have kb2 : w2.heap[e.rb]? = w.heap[e.rb]? := by rw [hb2.block _ hr1]; exact H1.out.2.1
  have q0 : w2.cell? ⟨e.rb, 0, none⟩ = some (.slice ad e.r.t.size cap) := by rw [cell_of_block kb2]; exact r0
  have q1 : w2.cell? ⟨e.rb, 1, none⟩ = some (.int .i64 (e.r.p : Int)) := by rw [cell_of_block kb2]; exact r1
  have q2 : w2.cell? ⟨e.rb, 2, none⟩ = some (.bool e.r.s) := by rw [cell_of_block kb2]; exact r2
  have x0 : w2.frozen? ⟨e.rb, 0, none⟩ = false := by rw [frozen_of_block kb2]; exact z0
  have x1 : w2.frozen? ⟨e.rb, 1, none⟩ = false := by rw [frozen_of_block kb2]; exact z1
  have x2 : w2.frozen? ⟨e.rb, 2, none⟩ = false := by rw [frozen_of_block kb2]; exact z2
  clear ht2 hb2 hl2 kb2 ht1 ez r0 r1 r2 z0 z1 z2
  go_wp2
  go_ret
  refine ⟨rfl, ?_⟩
  obtain ⟨ht2, hb2, hl2⟩ := H2.out
  have em : ((min e.r.p k : Nat) : Int) = min (e.r.p : Int) (k : Int) := by omega
  have hrv : ∀ g, e.v.ownBlock = some g → g ≠ e.rb := fun g hg e1 => HH.out.apart.ee e he (by rw [hg, e1])
  have hg' : ∀ g, (Value.slice ad' k cap').ownBlock = some g → g ≠ e.rb := fun g hg => by
    rcases hl2 g hg with h1 | h1
    · exact hrv g (by rw [HV.out]; exact h1)
    · omega
  have hl : ∀ g, (Value.slice ad' k cap').ownBlock = some g → e.v.ownBlock = some g ∨ w.heap.size ≤ g := fun g hg => by
    rcases hl2 g hg with h1 | h1
    · left; rw [HV.out]; exact h1
    · right; exact Nat.le_trans H1.out.1.size h1
  have hk3 : ∀ j, j < w.heap.size → j ≠ c → j ≠ e.rb → (((w2.setCell ⟨e.rb, 0, none⟩ (.slice ad' k cap')).setCell ⟨e.rb, 1, none⟩ (.int .i64 (min (e.r.p : Int) (k : Int)))).setCell ⟨e.rb, 2, none⟩ (.bool true)).heap[j]? = w.heap[j]? := fun j hj hjc hjr => by
    rw [Below.heap_setCell _ _ _ _ hjr, Below.heap_setCell _ _ _ _ hjr, Below.heap_setCell _ _ _ _ hjr, hb2.block j (Nat.lt_of_lt_of_le hj H1.out.1.size), H1.out.2.2.1 j hjc]
  have hR := RepL.repl HH.out he (e' := ⟨e.nm, e.rb, .slice ad' k cap', ⟨e.r.t.extract 0 k, min e.r.p k, true⟩⟩) (room' := room + (e.r.t.size - k)) (w' := ((w2.setCell ⟨e.rb, 0, none⟩ (.slice ad' k cap')).setCell ⟨e.rb, 1, none⟩ (.int .i64 (min (e.r.p : Int) (k : Int)))).setCell ⟨e.rb, 2, none⟩ (.bool true)) rfl rfl
    hl ?_ ⟨⟨⟨?_, ?_, ?_⟩, ?_, ?_, ?_⟩, ?_⟩ (fun j hj hjc hje => hk3 j hj hjc (fun e1 => hje (by rw [e1]; exact rb_mem e))) HW.out
  · obtain ⟨h1, h2⟩ := hR
    refine ⟨_, ⟨m, _, h1, (ab_repl L ⟨e.nm, e.rb, .slice ad' k cap', ⟨e.r.t.extract 0 k, min e.r.p k, true⟩⟩).symm, rfl⟩, h2, ?_⟩
    have hf : e.rb ∈ foots c m L := by
      unfold foots
      exact List.mem_cons_of_mem _ (List.mem_append_right _ (List.mem_flatMap.2 ⟨e, he, rb_mem e⟩))
    exact ((((H1.out.1.trans (Only.of_below hb2 []) (by simp)).setCell (.inl hf) _).setCell (.inl hf) _).setCell (.inl hf) _)
  · refine H1.out.2.2.2.kept ?_
    rw [Below.heap_setCell _ _ _ _ hcb, Below.heap_setCell _ _ _ _ hcb, Below.heap_setCell _ _ _ _ hcb, hb2.block c (Nat.lt_of_lt_of_le hcw H1.out.1.size)]
  · show World.cell? _ _ = some (.slice ad' k cap')
    go_simp
  · rw [em]
    go_simp
  · go_simp
  · go_simp
  · go_simp
  · go_simp
  · exact ht2.kept (fun g hg => by rw [Below.heap_setCell _ _ _ _ (hg' g hg), Below.heap_setCell _ _ _ _ (hg' g hg), Below.heap_setCell _ _ _ _ (hg' g hg)])
theorem rcut_p {w : World} {c : Nat} {F : List Nat} {st : St} (h : Rep w c F st) (n : ByteArray) (hn : n.size ≤ 1000000) (k : Int) :
    Calls Tryz.prog 50 #[.pointer (some ⟨c, 0, none⟩), .string n, .int .i64 k] w fun x w' => x = .returned (.int .i64 (cut st n k).1) ∧ Turns w c F (cut st n k).2 w' := by
  have h0 := h
  obtain ⟨m, L, hR, hl, rfl⟩ := h
  obtain ⟨room, l⟩ := st
  simp only at hR hl
  subst hl
  unfold cut
  rcases get_ab L n with ⟨e, he, rfl, hg⟩ | ⟨he, hg⟩
  · simp only [hg]
    by_cases h1 : k < 0
    · rw [if_pos (.inl h1)]
      exact (cut_below hR he k h1).mono fun x w' ⟨h1, h2⟩ => ⟨h1, by subst h2; exact Turns.same h0⟩
    · by_cases h2 : (e.r.t.size : Int) < k
      · rw [if_pos (.inr h2)]
        exact (cut_above hR he k h1 h2).mono fun x w' ⟨h1, h2⟩ => ⟨h1, by subst h2; exact Turns.same h0⟩
      · rw [if_neg (by omega)]
        obtain ⟨j, rfl⟩ : ∃ j : Nat, k = j := ⟨k.toNat, by omega⟩
        exact cut_old hR he j (by omega)
  · simp only [hg]
    exact (cut_none hR n he hn k).mono fun x w' ⟨h1, h2⟩ => ⟨h1, by subst h2; exact Turns.same h0⟩
theorem rpress_p {w : World} {c : Nat} {F : List Nat} {st : St} (h : Rep w c F st) (n : ByteArray) (hn : n.size ≤ 1000000) :
    Calls Tryz.prog 100 #[.pointer (some ⟨c, 0, none⟩), .string n] w fun x w' => x = .returned (.int .i64 (press st n).1) ∧ Turns w c F (press st n).2 w' := by
  have h0 := h
  obtain ⟨m, L, hR, hl, rfl⟩ := h
  obtain ⟨room, l⟩ := st
  simp only at hR hl
  subst hl
  unfold press
  rcases get_ab L n with ⟨e, he, rfl, hg⟩ | ⟨he, hg⟩
  · simp only [hg]
    exact press_old hR he
  · simp only [hg]
    exact (press_none hR n he hn).mono fun x w' ⟨h1, h2⟩ => ⟨h1, by subst h2; exact Turns.same h0⟩
def readS (st : St) (n : ByteArray) : ByteArray × Bool :=
  match get st.l n with
  | none => (⟨#[]⟩, false)
  | some r => (r.t, true)
theorem rread_p {w : World} {c : Nat} {F : List Nat} {st : St} (h : Rep w c F st) (n : ByteArray) (hn : n.size ≤ 1000000) :
    Calls Tryz.prog 47 #[.pointer (some ⟨c, 0, none⟩), .string n] w fun x w' => x = .returned (.tuple #[.string (readS st n).1, .bool (readS st n).2]) ∧ w = w' := by
  obtain ⟨m, L, hR, hl, rfl⟩ := h
  obtain ⟨room, l⟩ := st
  simp only at hR hl
  subst hl
  unfold readS
  rcases get_ab L n with ⟨e, he, rfl, hg⟩ | ⟨he, hg⟩
  · simp only [hg]
    exact read_old hR he
  · simp only [hg]
    exact read_none hR n he hn
def pressedS (st : St) (n : ByteArray) : Nat :=
  match get st.l n with
  | none => 0
  | some r => r.p
theorem rpressed_p {w : World} {c : Nat} {F : List Nat} {st : St} (h : Rep w c F st) (n : ByteArray) (hn : n.size ≤ 1000000) :
    Calls Tryz.prog 110 #[.pointer (some ⟨c, 0, none⟩), .string n] w fun x w' => x = .returned (.int .i64 ((pressedS st n : Nat) : Int)) ∧ w = w' := by
  obtain ⟨m, L, hR, hl, rfl⟩ := h
  obtain ⟨room, l⟩ := st
  simp only at hR hl
  subst hl
  unfold pressedS
  rcases get_ab L n with ⟨e, he, rfl, hg⟩ | ⟨he, hg⟩
  · simp only [hg]
    exact pressed_old hR he
  · simp only [hg]
    exact pressed_none hR n he hn
theorem rroom_p {w : World} {c : Nat} {F : List Nat} {st : St} (h : Rep w c F st) :
    Calls Tryz.prog 111 #[.pointer (some ⟨c, 0, none⟩)] w fun x w' => x = .returned (.int .i64 (st.room : Int)) ∧ w = w' := by
  obtain ⟨m, L, hR, hl, rfl⟩ := h
  exact room_l hR
end Go.Proofs.YtaacdggjkfmehaaGreatDoor
