/-
  Contracts of the program, and what they rest on.
-/
import Derived.Test.YtaacdggjkfmehaaGreatDoorM09
namespace Go.Proofs.YtaacdggjkfmehaaGreatDoor
open Go.RowKit Go.Maps Go.Proofs.MapD Go.Proofs.Chest
set_option maxRecDepth 100000 in
set_option maxHeartbeats 4000000 in
theorem call_form {w : World} (c : Nat) (n t : ByteArray) (ht : t.size ≤ 1000000) (hk : okName t = false) :
    Calls Tryz.prog 76 #[.pointer (some ⟨c, 0, none⟩), .string n, .string t] w fun x w' => x = .returned (.int .i64 1) ∧ w = w' := by
  have HK := Lib.hid hk
  clear hk
  go_enter Tryz.func76, Tryz.ntmps76
  go_wp2_with (go_at_call 98; refine (may_p t (by omega) _).mono ?_; rintro _ w1 ⟨rfl, rfl⟩; rw [HK.out])
  go_ret
  exact ⟨rfl, rfl⟩
set_option maxRecDepth 100000 in
set_option maxHeartbeats 4000000 in
theorem call_none {w : World} {c room : Nat} {m : Option Nat} {L : List En} (h : RepL w c room m L) (n t : ByteArray) (hn : ∀ e ∈ L, e.nm ≠ n) (hs : n.size ≤ 1000000) (ht : t.size ≤ 1000000) (hk : okName t = true) :
    Calls Tryz.prog 76 #[.pointer (some ⟨c, 0, none⟩), .string n, .string t] w fun x w' => x = .returned (.int .i64 6) ∧ w = w' := by
  have HK := Lib.hid hk
  clear hk
  go_enter Tryz.func76, Tryz.ntmps76
  go_wp2_with (first | (go_at_call 98; refine (may_p t (by omega) _).mono ?_; rintro _ w1 ⟨rfl, rfl⟩; rw [HK.out]) | (go_at_call 77; refine (find_none h n hn (by unfold maxLen; omega)).mono ?_; rintro _ w1 ⟨rfl, rfl⟩))
  go_ret
  exact ⟨rfl, rfl⟩
set_option maxRecDepth 100000 in
set_option maxHeartbeats 4000000 in
theorem call_same {w : World} {c room : Nat} {m : Option Nat} {L : List En} (h : RepL w c room m L) {e : En} (he : e ∈ L) :
    Calls Tryz.prog 76 #[.pointer (some ⟨c, 0, none⟩), .string e.nm, .string e.nm] w fun x w' => x = .returned (.int .i64 0) ∧ w = w' := by
  have hT := (h.ens e he).2
  have hroom := h.wf.room
  have hts : e.r.t.size ≤ total (ab L) := total_le (e := (e.nm, e.r)) (List.mem_map.2 ⟨e, he, rfl⟩ : (e.nm, e.r) ∈ ab L)
  have hpr : e.r.p ≤ e.r.t.size := h.wf.pressed (e.nm, e.r) (List.mem_map.2 ⟨e, he, rfl⟩)
  have hnn : okName e.nm = true := h.wf.names (e.nm, e.r) (List.mem_map.2 ⟨e, he, rfl⟩)
  have hn10 : e.nm.size ≤ 10 := by
    unfold okName at hnn
    simp only [Bool.and_eq_true, decide_eq_true_eq] at hnn
    exact hnn.1.2
  simp only at hroom
  have hsz : e.r.t.size ≤ 1048576 := by omega
  have hrb : e.rb < w.heap.size := h.elt he (rb_mem e)
  have hcw : c < w.heap.size := h.ch.lt
  have hcb : c ≠ e.rb := fun e1 => h.apart.ce e he (by rw [e1]; exact rb_mem e)
  obtain ⟨⟨r0, r1, r2⟩, z0, z1, z2⟩ := (h.ens e he).1
  obtain ⟨⟨c0, c1⟩, y0, y1⟩ := h.ch
  obtain ⟨ad, cap, hv⟩ := text_shape hT
  rw [hv] at r0
  have HV := Lib.hid hv
  have HF := Lib.hid (find_some h he (by unfold maxLen; omega))
  have HH := Lib.hid h
  have HT := Lib.hid hT
  have HK := Lib.hid hnn
  clear hT hv hnn h hpr hts
  obtain ⟨t, ht⟩ : ∃ t, e.nm = t := ⟨_, rfl⟩
  rw [ht] at HF HK hn10 ⊢
  clear ht
  go_enter Tryz.func76, Tryz.ntmps76
  go_wp2_with (first | (go_at_call 98; refine (may_p t (by omega) _).mono ?_; rintro _ w1 ⟨rfl, rfl⟩; rw [HK.out]) | (go_at_call 77; refine HF.out.mono ?_; rintro _ w1 ⟨rfl, rfl⟩))
  go_ret
  exact ⟨rfl, rfl⟩
def SameBut (c : Nat) (w W1 : World) : Prop := ∀ j, j ≠ c → W1.heap[j]? = w.heap[j]?
theorem nb_filter (L : List En) (n : ByteArray) : nb (L.filter fun e => decide (e.nm ≠ n)) = (nb L).filter fun e => decide (e.1 ≠ n) := by
  unfold nb
  rw [List.filter_map]
  rfl
theorem ab_filter (L : List En) (n : ByteArray) : ab (L.filter fun e => decide (e.nm ≠ n)) = Chest.del (ab L) n := by
  unfold ab Chest.del
  rw [List.filter_map]
  rfl
theorem call_end {w w3 : World} {c room room' b : Nat} {L : List En} (h : RepL w c room (some b) L) {e : En} (he : e ∈ L) (t : ByteArray) (hm : MapN w3 (some b) ((t, e.rb) :: ((nb L).filter fun x => decide (x.1 ≠ e.nm)).filter fun x => decide (x.1 ≠ t)))
    (hc : ChAt w3 c room' (some b)) (hk : ∀ k, k < w.heap.size → k ≠ c → k ≠ b → w3.heap[k]? = w.heap[k]?) (ho : Only (foots c (some b) L) w w3) (hw : Wf ⟨room', (t, ⟨e.r.t, e.r.p, true⟩) :: Chest.del (Chest.del (ab L) e.nm) t⟩) {R : Nat} (hR : room' = R) :
    Turns w c (foots c (some b) L) ⟨R, (t, ⟨e.r.t, e.r.p, true⟩) :: Chest.del (Chest.del (ab L) e.nm) t⟩ (w3.setCell ⟨e.rb, 2, none⟩ (.bool true)) := by
  subst hR
  let L0 := (L.filter fun x => decide (x.nm ≠ e.nm)).filter fun x => decide (x.nm ≠ t)
  have hL0 : ∀ x ∈ L0, x ∈ L ∧ x ≠ e := fun x hx => by
    have h1 := List.mem_filter.1 hx
    have h2 := List.mem_filter.1 h1.1
    exact ⟨h2.1, fun e1 => by rw [e1] at h2; simp at h2⟩
  let e' : En := ⟨t, e.rb, e.v, ⟨e.r.t, e.r.p, true⟩⟩
  have hf : e'.foot = e.foot := rfl
  have hrb : e.rb < w.heap.size := h.elt he (rb_mem e)
  have hcr : c ≠ e.rb := fun e1 => h.apart.ce e he (by rw [e1]; exact rb_mem e)
  have hbr : b ≠ e.rb := fun e1 => h.apart.me b rfl e he (by rw [e1]; exact rb_mem e)
  have hk' : ∀ k, k < w.heap.size → k ≠ c → k ≠ b → k ≠ e.rb → (w3.setCell ⟨e.rb, 2, none⟩ (.bool true)).heap[k]? = w.heap[k]? := fun k h1 h2 h3 h4 => by rw [Below.heap_setCell _ _ _ _ h4, hk k h1 h2 h3]
  have kb : w3.heap[e.rb]? = w.heap[e.rb]? := hk e.rb hrb (fun e1 => hcr e1.symm) (fun e1 => hbr e1.symm)
  obtain ⟨⟨r0, r1, r2⟩, z0, z1, z2⟩ := (h.ens e he).1
  have q0 : w3.cell? ⟨e.rb, 0, none⟩ = some e.v := by rw [cell_of_block kb]; exact r0
  have q1 : w3.cell? ⟨e.rb, 1, none⟩ = some (.int .i64 (e.r.p : Int)) := by rw [cell_of_block kb]; exact r1
  have q2 : w3.cell? ⟨e.rb, 2, none⟩ = some (.bool e.r.s) := by rw [cell_of_block kb]; exact r2
  have x0 : w3.frozen? ⟨e.rb, 0, none⟩ = false := by rw [frozen_of_block kb]; exact z0
  have x1 : w3.frozen? ⟨e.rb, 1, none⟩ = false := by rw [frozen_of_block kb]; exact z1
  have x2 : w3.frozen? ⟨e.rb, 2, none⟩ = false := by rw [frozen_of_block kb]; exact z2
  have hab : (t, ⟨e.r.t, e.r.p, true⟩) :: Chest.del (Chest.del (ab L) e.nm) t = ab (e' :: L0) := by
    rw [← ab_filter, ← ab_filter]
    rfl
  have hnb : nb (e' :: L0) = (t, e.rb) :: ((nb L).filter fun x => decide (x.1 ≠ e.nm)).filter fun x => decide (x.1 ≠ t) := by
    rw [← nb_filter, ← nb_filter]
    rfl
  have hR : RepL (w3.setCell ⟨e.rb, 2, none⟩ (.bool true)) c room' (some b) (e' :: L0) := by
    refine ⟨hc.kept (Below.heap_setCell _ _ _ _ hcr), ?_, ?_, ⟨h.apart.cm, ?_, ?_, ?_, ?_⟩, by rw [← hab]; exact hw⟩
    · unfold MapAt
      rw [hnb]
      exact MapN.kept hm (fun b' hb' => by obtain rfl := Option.some.inj hb'; exact Below.heap_setCell _ _ _ _ hbr)
    · intro x hx
      rcases List.mem_cons.1 hx with rfl | hx
      · refine ⟨⟨⟨?_, ?_, ?_⟩, ?_, ?_, ?_⟩, ?_⟩
        · show World.cell? _ ⟨e.rb, 0, none⟩ = some e.v
          go_simp
        · show World.cell? _ ⟨e.rb, 1, none⟩ = some (.int .i64 (e.r.p : Int))
          go_simp
        · show World.cell? _ ⟨e.rb, 2, none⟩ = some (.bool true)
          go_simp
        · show World.frozen? _ ⟨e.rb, 0, none⟩ = false
          go_simp
        · show World.frozen? _ ⟨e.rb, 1, none⟩ = false
          go_simp
        · show World.frozen? _ ⟨e.rb, 2, none⟩ = false
          go_simp
        · refine (h.ens e he).2.kept (fun g hg => ?_)
          have hgf : g ∈ e.foot := by simp [En.foot, hg]
          exact hk' g (h.elt he hgf) (fun e1 => h.apart.ce e he (e1 ▸ hgf)) (fun e1 => h.apart.me b rfl e he (e1 ▸ hgf)) (fun e1 => h.apart.ee e he (by rw [← e1]; exact hg))
      · obtain ⟨h1, h2⟩ := hL0 x hx
        exact (h.ens x h1).kept (fun k hkx => hk' k (h.elt h1 hkx) (fun e1 => h.apart.ce x h1 (e1 ▸ hkx)) (fun e1 => h.apart.me b rfl x h1 (e1 ▸ hkx)) (fun e1 => h.disj h1 he h2 k hkx (by rw [e1]; exact rb_mem e)))
    · intro x hx
      rcases List.mem_cons.1 hx with rfl | hx
      · exact h.apart.ce e he
      · exact h.apart.ce x (hL0 x hx).1
    · intro b' hb' x hx
      rcases List.mem_cons.1 hx with rfl | hx
      · exact h.apart.me b' hb' e he
      · exact h.apart.me b' hb' x (hL0 x hx).1
    · intro x hx
      rcases List.mem_cons.1 hx with rfl | hx
      · exact h.apart.ee e he
      · exact h.apart.ee x (hL0 x hx).1
    · rw [List.pairwise_cons]
      refine ⟨fun x hx k hk1 hk2 => ?_, (h.apart.ll.filter _).filter _⟩
      obtain ⟨h1, h2⟩ := hL0 x hx
      exact h.disj h1 he h2 k hk2 hk1
  refine ⟨_, ⟨some b, _, hR, hab, rfl⟩, ?_, ho.setCell (.inl ?_) _⟩
  · intro k hkf
    left
    unfold foots at hkf ⊢
    rcases List.mem_cons.1 hkf with rfl | hkf
    · simp
    · rcases List.mem_append.1 hkf with hkf | hkf
      · exact List.mem_cons_of_mem _ (List.mem_append_left _ hkf)
      · refine List.mem_cons_of_mem _ (List.mem_append_right _ ?_)
        obtain ⟨x, hx, hkx⟩ := List.mem_flatMap.1 hkf
        rcases List.mem_cons.1 hx with rfl | hx
        · exact List.mem_flatMap.2 ⟨e, he, hkx⟩
        · exact List.mem_flatMap.2 ⟨x, (hL0 x hx).1, hkx⟩
  · unfold foots
    exact List.mem_cons_of_mem _ (List.mem_append_right _ (List.mem_flatMap.2 ⟨e, he, rb_mem e⟩))
set_option maxRecDepth 100000 in
set_option maxHeartbeats 4000000 in
theorem call_new {w : World} {c room b : Nat} {L : List En} (h : RepL w c room (some b) L) {e : En} (he : e ∈ L) (t : ByteArray) (hNt : t ≠ e.nm) (hk : okName t = true) (hL : L.length ≤ 1000000) (hto : ∀ x ∈ L, x.nm ≠ t) :
    Calls Tryz.prog 76 #[.pointer (some ⟨c, 0, none⟩), .string e.nm, .string t] w fun x w' => x = .returned (.int .i64 0) ∧ Turns w c (foots c (some b) L) ⟨room, (t, ⟨e.r.t, e.r.p, true⟩) :: Chest.del (Chest.del (ab L) e.nm) t⟩ w' := by
  have hwf : Wf ⟨room + (match get (ab L) t with | none => 0 | some o => o.t.size), (t, ⟨e.r.t, e.r.p, true⟩) :: Chest.del (Chest.del (ab L) e.nm) t⟩ := by
    have hg : get (ab L) e.nm = some e.r := get_of_mem h.wf.apart (List.mem_map.2 ⟨e, he, rfl⟩)
    have := wf_call h.wf e.nm t
    unfold call at this
    simp only [hg, hk] at this
    rw [if_neg (by decide), if_neg (fun e1 => hNt e1.symm)] at this
    exact this
  have hgt : get (ab L) t = none := get_none.2 (fun x hx => by
    obtain ⟨a, ha, rfl⟩ := List.mem_map.1 hx
    exact hto a ha)
  rw [hgt] at hwf
  have HW := Lib.hid hwf
  have HN := Lib.hid (names_nb h)
  have HK := Lib.hid hk
  have ht10 : t.size ≤ 10 := by
    unfold okName at hk
    simp only [Bool.and_eq_true, decide_eq_true_eq] at hk
    exact hk.1.2
  have hne : ¬ e.nm = t := fun e1 => hNt e1.symm
  have hne2 : (e.nm.toList == t.toList) = false := by
    rw [beq_eq_false_iff_ne, ByteArray.toList_eq, ByteArray.toList_eq]
    exact fun e1 => hne (ByteArray.ext (Array.ext' e1))
  have hkt := Go.WideMaps.keyOf_string_mk (P := Tryz.prog) Tryz.underlying9 (s := t) (by unfold maxLen; omega)
  have hT := (h.ens e he).2
  have hroom := h.wf.room
  have hts : e.r.t.size ≤ total (ab L) := total_le (e := (e.nm, e.r)) (List.mem_map.2 ⟨e, he, rfl⟩ : (e.nm, e.r) ∈ ab L)
  have hpr : e.r.p ≤ e.r.t.size := h.wf.pressed (e.nm, e.r) (List.mem_map.2 ⟨e, he, rfl⟩)
  have hnn : okName e.nm = true := h.wf.names (e.nm, e.r) (List.mem_map.2 ⟨e, he, rfl⟩)
  have hn10 : e.nm.size ≤ 10 := by
    unfold okName at hnn
    simp only [Bool.and_eq_true, decide_eq_true_eq] at hnn
    exact hnn.1.2
  simp only at hroom
  have hsz : e.r.t.size ≤ 1048576 := by omega
  have hrb : e.rb < w.heap.size := h.elt he (rb_mem e)
  have hcw : c < w.heap.size := h.ch.lt
  have hcb : c ≠ e.rb := fun e1 => h.apart.ce e he (by rw [e1]; exact rb_mem e)
  obtain ⟨⟨r0, r1, r2⟩, z0, z1, z2⟩ := (h.ens e he).1
  obtain ⟨⟨c0, c1⟩, y0, y1⟩ := h.ch
  obtain ⟨ad, cap, hv⟩ := text_shape hT
  rw [hv] at r0
  have HV := Lib.hid hv
  have HF := Lib.hid (find_some h he (by unfold maxLen; omega))
  have HH := Lib.hid h
  have HT := Lib.hid hT
  clear hT hv hnn
  have hhas := Lib.hid (has_not hto)
  have hown : w.ownsMap Tryz.prog 9 ptrElem b (nb L).length (D (nb L)) := h.map
  clear h hwf hk hts hgt hto
  clear c0 c1 y0 y1
  have hx1 := Only.refl (foots c (some b) L) w
  have hx2 : SameBut c w w := fun _ _ => rfl
  have hx3 := HH.out.ch
  have HX := Lib.hid (And.intro hx1 (And.intro hx2 hx3))
  have hown1 : w.ownsMap Tryz.prog 9 ptrElem b (nb L).length (D (nb L)) := MapN.kept (m := some b) HH.out.map (fun b' hb' => by cases hb'; exact hx2 b (fun e1 => HH.out.apart.cm b rfl e1.symm))
  obtain ⟨⟨c0, c1⟩, y0, y1⟩ := hx3
  clear hx1 hx2
  go_enter Tryz.func76, Tryz.ntmps76
  go_wp2_with (first
      | (go_at_call 98; refine (may_p t (by omega) _).mono ?_; rintro _ w1 ⟨rfl, rfl⟩; rw [HK.out])
      | (go_at_call 77; refine HF.out.mono ?_; rintro _ w1 ⟨rfl, rfl⟩)
      | (at_lookup; refine wpList_lookup_own_ok _ rfl _ _ 62 rfl 9 83 law Tryz.underlying62 ptrElem (zeroP _) (.lit (.bool false)) [] ptr_nil b (nb L).length (D (nb L)) rfl hown _ (kl t) rfl hkt ?_; intro v ps hv2; rw [atKey_of_not_has hhas.out] at hv2; obtain rfl := ptr_nil_inv hv2; rw [hhas.out])
      | (at_delete; refine wpList_delete_own _ rfl _ _ 62 9 rfl 83 law Tryz.underlying62 ptrElem b (nb L).length (D (nb L)) rfl hown1 _ (kl e.nm) rfl (Go.WideMaps.keyOf_string_mk (P := Tryz.prog) Tryz.underlying9 (by unfold maxLen; omega)) ?_; intro w2 hown2 hturn2
         rw [D_del HN.out] at hown2
         have hg2 := hturn2.grown
         have hn2 : MapN w2 (some b) ((nb L).filter fun x => decide (x.1 ≠ e.nm)) := owns_norm hown2
         have hcb2 : w2.heap[c]? = w.heap[c]? := hg2.block c (Nat.lt_of_lt_of_le hcw HX.out.1.size) (fun e1 => HH.out.apart.cm b rfl (Option.some.inj e1))
         have hc2 : ChAt w2 c room (some b) := HX.out.2.2.kept hcb2
         have H2 := Lib.hid (And.intro hn2 (And.intro hg2 hc2))
         clear hown2 hturn2 hg2 hn2 hcb2 hc2)
      | (go_at_call 42; refine (rput_p H2.out.2.2 H2.out.1 (HN.out.sublist (List.Sublist.map _ List.filter_sublist)) HH.out.apart.cm t (by omega) (Nat.le_trans (List.length_filter_le _ _) (by rw [nb, List.length_map]; exact hL)) e.rb).mono ?_; rintro _ w3 ⟨b3, rfl, hc3, hm3, ho3, hb3⟩
         obtain rfl : b = b3 := by rcases hb3 with h1 | ⟨h1, _⟩; exact Option.some.inj h1; cases h1
         have kb3 : w3.heap[e.rb]? = w.heap[e.rb]? := (by
           have hrl := Nat.lt_of_lt_of_le hrb HX.out.1.size
           rw [ho3.block e.rb (Nat.lt_of_lt_of_le hrl H2.out.2.1.size) (fun hi => by rcases List.mem_cons.1 hi with h3 | h3; exact hcb h3.symm; exact HH.out.apart.me b rfl e he (by rw [Option.some.inj (Option.mem_toList.1 h3)]; exact rb_mem e)), H2.out.2.1.block e.rb hrl (fun e1 => HH.out.apart.me b rfl e he (by rw [← Option.some.inj e1]; exact rb_mem e)), HX.out.2.1 e.rb (fun e1 => hcb e1.symm)])
         have q2 : w3.cell? ⟨e.rb, 2, none⟩ = some (.bool e.r.s) := (by rw [cell_of_block kb3]; exact r2)
         have x2 : w3.frozen? ⟨e.rb, 2, none⟩ = false := (by rw [frozen_of_block kb3]; exact z2)
         have H3 := Lib.hid (And.intro hc3 (And.intro hm3 (And.intro ho3 kb3)))
         clear hc3 hm3 ho3 kb3 hb3))
  go_ret
  refine ⟨rfl, ?_⟩
  obtain ⟨hn2, hg2, hc2⟩ := H2.out
  obtain ⟨hc3, hm3, ho3, kb3⟩ := H3.out
  obtain ⟨hx1, hx2, hx3⟩ := HX.out
  exact call_end HH.out he t hm3 hc3 (fun k hk hkc hkb => by
    rw [ho3.block k (Nat.lt_of_lt_of_le (Nat.lt_of_lt_of_le hk hx1.size) hg2.size) (fun hi => by rcases List.mem_cons.1 hi with h3 | h3; exact hkc h3; exact hkb (Option.some.inj (Option.mem_toList.1 h3)).symm), hg2.block k (Nat.lt_of_lt_of_le hk hx1.size) (fun e1 => hkb (Option.some.inj e1)), hx2 k hkc]) ((hx1.grown hg2 (fun k hk => .inl (by unfold foots; simp [hk]))).trans ho3 (fun i hi => .inl (by unfold foots; rcases List.mem_cons.1 hi with h3 | h3; rw [h3]; simp; exact List.mem_cons_of_mem _ (List.mem_append_left _ h3)))) HW.out rfl
set_option maxRecDepth 100000 in
set_option maxHeartbeats 4000000 in
theorem call_over {w : World} {c room b : Nat} {L : List En} (h : RepL w c room (some b) L) {e : En} (he : e ∈ L) (t : ByteArray) (hNt : t ≠ e.nm) (hk : okName t = true) (hL : L.length ≤ 1000000) {o : En} (ho : o ∈ L) (hot : o.nm = t) :
    Calls Tryz.prog 76 #[.pointer (some ⟨c, 0, none⟩), .string e.nm, .string t] w fun x w' => x = .returned (.int .i64 0) ∧ Turns w c (foots c (some b) L) ⟨room + o.r.t.size, (t, ⟨e.r.t, e.r.p, true⟩) :: Chest.del (Chest.del (ab L) e.nm) t⟩ w' := by
  have hwf : Wf ⟨room + (match get (ab L) t with | none => 0 | some o => o.t.size), (t, ⟨e.r.t, e.r.p, true⟩) :: Chest.del (Chest.del (ab L) e.nm) t⟩ := by
    have hg : get (ab L) e.nm = some e.r := get_of_mem h.wf.apart (List.mem_map.2 ⟨e, he, rfl⟩)
    have := wf_call h.wf e.nm t
    unfold call at this
    simp only [hg, hk] at this
    rw [if_neg (by decide), if_neg (fun e1 => hNt e1.symm)] at this
    exact this
  have hgt : get (ab L) t = some o.r := get_of_mem h.wf.apart (List.mem_map.2 ⟨o, ho, by rw [hot]⟩)
  rw [hgt] at hwf
  have HW := Lib.hid hwf
  have hto : o.r.t.size ≤ total (ab L) := total_le (e := (o.nm, o.r)) (List.mem_map.2 ⟨o, ho, rfl⟩ : (o.nm, o.r) ∈ ab L)
  have HN := Lib.hid (names_nb h)
  have HK := Lib.hid hk
  have ht10 : t.size ≤ 10 := by
    unfold okName at hk
    simp only [Bool.and_eq_true, decide_eq_true_eq] at hk
    exact hk.1.2
  have hne : ¬ e.nm = t := fun e1 => hNt e1.symm
  have hne2 : (e.nm.toList == t.toList) = false := by
    rw [beq_eq_false_iff_ne, ByteArray.toList_eq, ByteArray.toList_eq]
    exact fun e1 => hne (ByteArray.ext (Array.ext' e1))
  have hkt := Go.WideMaps.keyOf_string_mk (P := Tryz.prog) Tryz.underlying9 (s := t) (by unfold maxLen; omega)
  have hT := (h.ens e he).2
  have hroom := h.wf.room
  have hts : e.r.t.size ≤ total (ab L) := total_le (e := (e.nm, e.r)) (List.mem_map.2 ⟨e, he, rfl⟩ : (e.nm, e.r) ∈ ab L)
  have hpr : e.r.p ≤ e.r.t.size := h.wf.pressed (e.nm, e.r) (List.mem_map.2 ⟨e, he, rfl⟩)
  have hnn : okName e.nm = true := h.wf.names (e.nm, e.r) (List.mem_map.2 ⟨e, he, rfl⟩)
  have hn10 : e.nm.size ≤ 10 := by
    unfold okName at hnn
    simp only [Bool.and_eq_true, decide_eq_true_eq] at hnn
    exact hnn.1.2
  simp only at hroom
  have hsz : e.r.t.size ≤ 1048576 := by omega
  have hrb : e.rb < w.heap.size := h.elt he (rb_mem e)
  have hcw : c < w.heap.size := h.ch.lt
  have hcb : c ≠ e.rb := fun e1 => h.apart.ce e he (by rw [e1]; exact rb_mem e)
  obtain ⟨⟨r0, r1, r2⟩, z0, z1, z2⟩ := (h.ens e he).1
  obtain ⟨⟨c0, c1⟩, y0, y1⟩ := h.ch
  obtain ⟨ad, cap, hv⟩ := text_shape hT
  rw [hv] at r0
  have HV := Lib.hid hv
  have HF := Lib.hid (find_some h he (by unfold maxLen; omega))
  have HH := Lib.hid h
  have HT := Lib.hid hT
  clear hT hv hnn
  have hor : room + o.r.t.size ≤ 1048576 := by omega
  have hhas := Lib.hid (has_nb (L := L) (n := t) ⟨o, ho, hot⟩)
  have hat := Lib.hid (D_at (names_nb h) (e := (o.nm, o.rb)) (List.mem_map.2 ⟨o, ho, rfl⟩) (.lit (.bool false)))
  have hown : w.ownsMap Tryz.prog 9 ptrElem b (nb L).length (D (nb L)) := h.map
  obtain ⟨oad, ocap, hov⟩ := text_shape (h.ens o ho).2
  have o0 := (h.ens o ho).1.1.1
  rw [hov] at o0
  have s2 : IntKind.i64.wrap ((room : Int) + (o.r.t.size : Int)) = (room : Int) + (o.r.t.size : Int) := IntWalk.i64_in _ (by omega)
  simp only [hot] at hat
  clear h hwf hk hts hgt hto hov hot hroom
  go_enter Tryz.func76, Tryz.ntmps76
  go_wp2_with (first
      | (go_at_call 98; refine (may_p t (by omega) _).mono ?_; rintro _ w1 ⟨rfl, rfl⟩; rw [HK.out])
      | (go_at_call 77; refine HF.out.mono ?_; rintro _ w1 ⟨rfl, rfl⟩)
      | (at_lookup; refine wpList_lookup_own_ok _ rfl _ _ 62 rfl 9 83 law Tryz.underlying62 ptrElem (zeroP _) (.lit (.bool false)) [] ptr_nil b (nb L).length (D (nb L)) rfl hown _ (kl t) rfl hkt ?_; intro v ps hv2; rw [hat.out] at hv2; obtain rfl := ptr_inv hv2; rw [hhas.out]))
  have hx1 : Only (foots c (some b) L) w (w.setCell ⟨c, 0, none⟩ (.int .i64 ((room : Int) + (o.r.t.size : Int)))).drew := ((Only.refl _ w).setCell (.inl (by simp [foots])) _).drew
  have hx2 : SameBut c w (w.setCell ⟨c, 0, none⟩ (.int .i64 ((room : Int) + (o.r.t.size : Int)))).drew := fun j hj => Below.heap_setCell _ _ _ _ hj
  have hx3 : ChAt (w.setCell ⟨c, 0, none⟩ (.int .i64 ((room : Int) + (o.r.t.size : Int)))).drew c (room + o.r.t.size) (some b) := by
    have e1 : ((room + o.r.t.size : Nat) : Int) = (room : Int) + (o.r.t.size : Int) := by omega
    rw [ChAt, e1]
    refine ⟨⟨?_, ?_⟩, ?_, ?_⟩ <;> go_simp
  have HX := Lib.hid (And.intro hx1 (And.intro hx2 hx3))
  have hown1 : (w.setCell ⟨c, 0, none⟩ (.int .i64 ((room : Int) + (o.r.t.size : Int)))).drew.ownsMap Tryz.prog 9 ptrElem b (nb L).length (D (nb L)) := MapN.kept (m := some b) HH.out.map (fun b' hb' => by cases hb'; exact hx2 b (fun e1 => HH.out.apart.cm b rfl e1.symm))
  clear hx1 hx2 hx3
  go_still_tail 12, (by kernel_rfl)
  go_wp2_with (first
      | (at_delete; refine wpList_delete_own _ rfl _ _ 62 9 rfl 83 law Tryz.underlying62 ptrElem b (nb L).length (D (nb L)) rfl hown1 _ (kl e.nm) rfl (Go.WideMaps.keyOf_string_mk (P := Tryz.prog) Tryz.underlying9 (by unfold maxLen; omega)) ?_; intro w2 hown2 hturn2
         rw [D_del HN.out] at hown2
         have hg2 := hturn2.grown
         have hn2 : MapN w2 (some b) ((nb L).filter fun x => decide (x.1 ≠ e.nm)) := owns_norm hown2
         have hcb2 : w2.heap[c]? = (w.setCell ⟨c, 0, none⟩ (.int .i64 ((room : Int) + (o.r.t.size : Int)))).drew.heap[c]? := hg2.block c (Nat.lt_of_lt_of_le hcw HX.out.1.size) (fun e1 => HH.out.apart.cm b rfl (Option.some.inj e1))
         have hc2 : ChAt w2 c (room + o.r.t.size) (some b) := HX.out.2.2.kept hcb2
         have H2 := Lib.hid (And.intro hn2 (And.intro hg2 hc2))
         clear hown2 hturn2 hg2 hn2 hcb2 hc2)
      | (go_at_call 42; refine (rput_p H2.out.2.2 H2.out.1 (HN.out.sublist (List.Sublist.map _ List.filter_sublist)) HH.out.apart.cm t (by omega) (Nat.le_trans (List.length_filter_le _ _) (by rw [nb, List.length_map]; exact hL)) e.rb).mono ?_; rintro _ w3 ⟨b3, rfl, hc3, hm3, ho3, hb3⟩
         obtain rfl : b = b3 := by rcases hb3 with h1 | ⟨h1, _⟩; exact Option.some.inj h1; cases h1
         have kb3 : w3.heap[e.rb]? = w.heap[e.rb]? := (by
           have hrl := Nat.lt_of_lt_of_le hrb HX.out.1.size
           rw [ho3.block e.rb (Nat.lt_of_lt_of_le hrl H2.out.2.1.size) (fun hi => by rcases List.mem_cons.1 hi with h3 | h3; exact hcb h3.symm; exact HH.out.apart.me b rfl e he (by rw [Option.some.inj (Option.mem_toList.1 h3)]; exact rb_mem e)), H2.out.2.1.block e.rb hrl (fun e1 => HH.out.apart.me b rfl e he (by rw [← Option.some.inj e1]; exact rb_mem e)), HX.out.2.1 e.rb (fun e1 => hcb e1.symm)])
         have q2 : w3.cell? ⟨e.rb, 2, none⟩ = some (.bool e.r.s) := (by rw [cell_of_block kb3]; exact r2)
         have x2 : w3.frozen? ⟨e.rb, 2, none⟩ = false := (by rw [frozen_of_block kb3]; exact z2)
         have H3 := Lib.hid (And.intro hc3 (And.intro hm3 (And.intro ho3 kb3)))
         clear hc3 hm3 ho3 kb3 hb3))
  go_ret
  refine ⟨rfl, ?_⟩
  obtain ⟨hn2, hg2, hc2⟩ := H2.out
  obtain ⟨hc3, hm3, ho3, kb3⟩ := H3.out
  obtain ⟨hx1, hx2, hx3⟩ := HX.out
  exact call_end HH.out he t hm3 hc3 (fun k hk hkc hkb => by
    rw [ho3.block k (Nat.lt_of_lt_of_le (Nat.lt_of_lt_of_le hk hx1.size) hg2.size) (fun hi => by rcases List.mem_cons.1 hi with h3 | h3; exact hkc h3; exact hkb (Option.some.inj (Option.mem_toList.1 h3)).symm), hg2.block k (Nat.lt_of_lt_of_le hk hx1.size) (fun e1 => hkb (Option.some.inj e1)), hx2 k hkc]) ((hx1.grown hg2 (fun k hk => .inl (by unfold foots; simp [hk]))).trans ho3 (fun i hi => .inl (by unfold foots; rcases List.mem_cons.1 hi with h3 | h3; rw [h3]; simp; exact List.mem_cons_of_mem _ (List.mem_append_left _ h3)))) HW.out rfl
theorem rcall_p {w : World} {c : Nat} {F : List Nat} {st : St} (h : Rep w c F st) (hL : st.l.length ≤ 1000000) (f t : ByteArray) (hf : f.size ≤ 1000000) (ht : t.size ≤ 1000000) :
    Calls Tryz.prog 76 #[.pointer (some ⟨c, 0, none⟩), .string f, .string t] w fun x w' => x = .returned (.int .i64 (call st f t).1) ∧ Turns w c F (call st f t).2 w' := by
  have h0 := h
  obtain ⟨m, L, hR, hl, rfl⟩ := h
  obtain ⟨room, l⟩ := st
  simp only at hR hl hL
  subst hl
  have hLL : L.length ≤ 1000000 := by unfold ab at hL; rw [List.length_map] at hL; exact hL
  unfold call
  cases hk : okName t with
  | false =>
    rw [if_pos rfl]
    exact (call_form c f t ht hk).mono fun x w' ⟨h1, h2⟩ => ⟨h1, by subst h2; exact Turns.same h0⟩
  | true =>
    rw [if_neg (by decide)]
    rcases get_ab L f with ⟨e, he, rfl, hg⟩ | ⟨he, hg⟩
    · simp only [hg]
      by_cases hft : e.nm = t
      · rw [if_pos hft]
        subst hft
        exact (call_same hR he).mono fun x w' ⟨h1, h2⟩ => ⟨h1, by subst h2; exact Turns.same h0⟩
      · rw [if_neg hft]
        cases m with
        | none =>
          have h0 : nb L = [] := hR.map
          unfold nb at h0
          rw [List.map_eq_nil_iff] at h0
          rw [h0] at he
          cases he
        | some b =>
          rcases get_ab L t with ⟨o, ho, hot, hgo⟩ | ⟨hto, hgo⟩
          · simp only [hgo]
            exact call_over hR he t (fun e1 => hft e1.symm) hk hLL ho hot
          · simp only [hgo, Nat.add_zero]
            exact call_new hR he t (fun e1 => hft e1.symm) hk hLL hto
    · simp only [hg]
      exact (call_none hR f t he hf ht hk).mono fun x w' ⟨h1, h2⟩ => ⟨h1, by subst h2; exact Turns.same h0⟩
end Go.Proofs.YtaacdggjkfmehaaGreatDoor
