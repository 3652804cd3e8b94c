/-
  roll's Write.
-/
import Derived.Test.YtaekieoingflaaaGreatDoorRoll4
namespace Go.Proofs.YtaekieoingflaaaGreatDoor
open Go.RowKit Go.Maps Go.Proofs.MapD Go.Proofs.Chest

set_option maxRecDepth 100000 in
theorem write_nil (n s : ByteArray) (w : World) :
    Calls Tryz.prog 19 #[.pointer none, .string n, .string s] w fun x w' => x = .returned (.int .i64 7) ∧ w = w' := by
  go_enter Tryz.func19, Tryz.ntmps19
  go_wp2
  go_ret
  exact ⟨rfl, rfl⟩

set_option maxRecDepth 100000 in
theorem write_form {w : World} (c : Nat) (n s : ByteArray) (hn : n.size ≤ 1000000) (hk : okName n = false) :
    Calls Tryz.prog 19 #[.pointer (some ⟨c, 0, none⟩), .string n, .string s] w fun x w' => x = .returned (.int .i64 1) ∧ w = w' := by
  have HK := Lib.hid hk
  clear hk
  go_enter Tryz.func19, Tryz.ntmps19
  go_wp2_with (go_at_call 52; refine (may_p n (by omega) _).mono ?_; rintro _ w1 ⟨rfl, rfl⟩; rw [HK.out])
  go_ret
  exact ⟨rfl, rfl⟩

set_option maxRecDepth 100000 in
theorem write_full {w : World} {c room : Nat} {m : Option Nat} (hc : ChAt w c room m) (n s : ByteArray) (hn : n.size ≤ 1000000) (hk : okName n = true) (hr : room < s.size) :
    Calls Tryz.prog 19 #[.pointer (some ⟨c, 0, none⟩), .string n, .string s] w fun x w' => x = .returned (.int .i64 5) ∧ w = w' := by
  have HK := Lib.hid hk
  clear hk
  obtain ⟨⟨c0, c1⟩, _, _⟩ := hc
  have hr' : (room : Int) < (s.size : Int) := by omega
  go_enter Tryz.func19, Tryz.ntmps19
  go_wp2_with (go_at_call 52; refine (may_p n (by omega) _).mono ?_; rintro _ w1 ⟨rfl, rfl⟩; rw [HK.out])
  go_ret
  exact ⟨rfl, rfl⟩

set_option maxRecDepth 100000 in
set_option maxHeartbeats 4000000 in
theorem write_old {w : World} {c room : Nat} {m : Option Nat} {L : List En} (h : RepL w c room m L) {e : En} (he : e ∈ L) (s : ByteArray) (hk : okName e.nm = true) (hr : s.size ≤ room) :
    Calls Tryz.prog 19 #[.pointer (some ⟨c, 0, none⟩), .string e.nm, .string s] w fun x w' => x = .returned (.int .i64 0) ∧ Turns w c (foots c m L) ⟨room - s.size, Chest.set (ab L) e.nm ⟨e.r.t ++ s, e.r.p, e.r.s⟩⟩ w' := by
  have hroom := h.wf.room
  have hts : e.r.t.size ≤ total (ab L) := total_le (e := (e.nm, e.r)) (List.mem_map.2 ⟨e, he, rfl⟩ : (e.nm, e.r) ∈ ab L)
  have hnn : e.nm.size ≤ 10 := by
    unfold okName at hk
    simp only [Bool.and_eq_true, decide_eq_true_eq] at hk
    exact hk.1.2
  have hwf : Wf ⟨room - s.size, Chest.set (ab L) e.nm ⟨e.r.t ++ s, e.r.p, e.r.s⟩⟩ := by
    have hg : get (ab L) e.nm = some e.r := get_of_mem h.wf.apart (List.mem_map.2 ⟨e, he, rfl⟩)
    have := wf_write h.wf e.nm s
    unfold write at this
    rw [if_neg (by rw [hk]; decide), if_neg (by simpa using hr), hg] at this
    exact this
  have HW := Lib.hid hwf
  have HH := Lib.hid h
  have HK := Lib.hid hk
  simp only at hroom
  have hsz : e.r.t.size + s.size ≤ 1048576 := by omega
  have hrm : room ≤ 1048576 := by omega
  clear hroom hts
  have hrb : e.rb < w.heap.size := h.elt he (rb_mem e)
  have hcw : c < w.heap.size := h.ch.lt
  have hcb : c ≠ e.rb := fun e1 => h.apart.ce e he (by rw [e1]; exact rb_mem e)
  have hcv : ∀ g, e.v.ownBlock = some g → c ≠ g := fun g hg e1 => h.apart.ce e he (by rw [e1]; simp [En.foot, hg])
  have hrv : ∀ g, e.v.ownBlock = some g → e.rb ≠ g := fun g hg e1 => h.apart.ee e he (by rw [hg, e1])
  have hT := (h.ens e he).2
  obtain ⟨⟨r0, r1, r2⟩, z0, z1, z2⟩ := (h.ens e he).1
  obtain ⟨ad, cap, hv⟩ := text_shape hT
  rw [hv] at hT r0 hcv hrv
  have HV := Lib.hid hv
  have HT := Lib.hid hT
  clear hT hv
  obtain ⟨⟨c0, c1⟩, y0, y1⟩ := h.ch
  have hm := h.map
  cases m with
  | none =>
    have h0 : nb L = [] := hm
    unfold nb at h0
    rw [List.map_eq_nil_iff] at h0
    rw [h0] at he
    cases he
  | some b =>
    have hown : w.ownsMap Tryz.prog 9 ptrElem b (nb L).length (D (nb L)) := hm
    have hhas := Lib.hid (has_nb (L := L) (n := e.nm) ⟨e, he, rfl⟩)
    have hat := Lib.hid (D_at (names_nb h) (e := (e.nm, e.rb)) (List.mem_map.2 ⟨e, he, rfl⟩) (.lit (.bool false)))
    have hns : ¬ (room : Int) < (s.size : Int) := by omega
    clear hm hwf h hk
    go_enter Tryz.func19, Tryz.ntmps19
    go_wp2_with (first
      | (go_at_call 52; refine (may_p e.nm (by omega) _).mono ?_; rintro _ w1 ⟨rfl, rfl⟩; rw [HK.out])
      | (at_lookup; refine wpList_lookup_own_ok _ rfl _ _ 56 rfl 9 64 law Tryz.underlying56 ptrElem (zeroP _) (.lit (.bool false)) [] ptr_nil b (nb L).length (D (nb L)) rfl hown _ (kl e.nm) rfl (Go.WideMaps.keyOf_string_mk Tryz.underlying9 (by unfold maxLen; omega)) ?_; intro v ps hv; rw [hat.out] at hv; obtain rfl := ptr_inv hv; rw [hhas.out])
      | (at_builtin; refine wpList_text_append rfl _ _ rfl (.slice ad e.r.t.size cap) e.r.t s rfl rfl HT.out (by omega) ?_; intro v' w1 ht1 hg1 hl1; obtain ⟨ad', cap', rfl⟩ := text_shape ht1
         have kb : w1.heap[e.rb]? = w.heap[e.rb]? := hg1.block _ hrb (fun e1 => hrv _ e1.symm rfl)
         have kc : w1.heap[c]? = w.heap[c]? := hg1.block _ hcw (fun e1 => hcv _ e1.symm rfl)
         have q0 : w1.cell? ⟨e.rb, 0, none⟩ = some (.slice ad e.r.t.size cap) := (by rw [cell_of_block kb]; exact r0)
         have x0 : w1.frozen? ⟨e.rb, 0, none⟩ = false := (by rw [frozen_of_block kb]; exact z0)
         have d0 : w1.cell? ⟨c, 0, none⟩ = some (.int .i64 room) := (by rw [cell_of_block kc]; exact c0)
         have f0 : w1.frozen? ⟨c, 0, none⟩ = false := (by rw [frozen_of_block kc]; exact y0)))
    go_ret
    refine ⟨rfl, ?_⟩
    rw [ByteArray.size_append] at ht1 hl1
    have e1 : ((room - s.size : Nat) : Int) = (room : Int) - (s.size : Int) := by omega
    have hf : ∀ k, k ∈ e.foot → k ∈ foots c (some b) L := fun k hk => by
      unfold foots
      exact List.mem_cons_of_mem _ (List.mem_append_right _ (List.mem_flatMap.2 ⟨e, he, hk⟩))
    have hown : ∀ g, (Value.slice ad e.r.t.size cap).ownBlock = some g → g ∈ e.foot := fun g hg => by
      simp [En.foot, HV.out, hg]
    have kb : w1.heap[e.rb]? = w.heap[e.rb]? := hg1.block _ hrb (fun e1 => hrv _ e1.symm rfl)
    have kc : w1.heap[c]? = w.heap[c]? := hg1.block _ hcw (fun e1 => hcv _ e1.symm rfl)
    have q1 : w1.cell? ⟨e.rb, 1, none⟩ = some (.int .i64 (e.r.p : Int)) := by rw [cell_of_block kb]; exact r1
    have q2 : w1.cell? ⟨e.rb, 2, none⟩ = some (.bool e.r.s) := by rw [cell_of_block kb]; exact r2
    have x1 : w1.frozen? ⟨e.rb, 1, none⟩ = false := by rw [frozen_of_block kb]; exact z1
    have x2 : w1.frozen? ⟨e.rb, 2, none⟩ = false := by rw [frozen_of_block kb]; exact z2
    have d1 : w1.cell? ⟨c, 1, none⟩ = some (.map (some b)) := by rw [cell_of_block kc]; exact c1
    have f1 : w1.frozen? ⟨c, 1, none⟩ = false := by rw [frozen_of_block kc]; exact y1
    have hg' : ∀ g, (Value.slice ad' (e.r.t.size + s.size) cap').ownBlock = some g → g ≠ e.rb ∧ g ≠ c := fun g hg => by
      rcases hl1 g hg with h1 | h1
      · exact ⟨fun e2 => hrv g h1 e2.symm, fun e2 => hcv g h1 e2.symm⟩
      · exact ⟨by omega, by omega⟩
    have hR := RepL.repl HH.out he (e' := ⟨e.nm, e.rb, .slice ad' (e.r.t.size + s.size) cap', ⟨e.r.t ++ s, e.r.p, e.r.s⟩⟩) (room' := room - s.size) (w' := (w1.setCell ⟨e.rb, 0, none⟩ (.slice ad' (e.r.t.size + s.size) cap')).setCell ⟨c, 0, none⟩ (.int .i64 ((room : Int) - (s.size : Int)))) rfl rfl
      (fun g hg => by rw [HV.out]; exact hl1 g hg) ?_ ⟨⟨⟨?_, ?_, ?_⟩, ?_, ?_, ?_⟩, ?_⟩ ?_ HW.out
    · obtain ⟨h1, h2⟩ := hR
      refine ⟨_, ⟨some b, _, h1, (ab_repl L ⟨e.nm, e.rb, .slice ad' (e.r.t.size + s.size) cap', ⟨e.r.t ++ s, e.r.p, e.r.s⟩⟩).symm, rfl⟩, h2, ?_⟩
      refine (((Only.refl _ w).grown hg1 (fun k hk => .inl (hf k (hown k hk)))).setCell (.inl (hf _ (rb_mem e))) _).setCell (.inl ?_) _
      simp [foots]
    · rw [ChAt, e1]
      refine ⟨⟨?_, ?_⟩, ?_, ?_⟩ <;> go_simp
    · go_simp
    · go_simp
    · go_simp
    · go_simp
    · go_simp
    · go_simp
    · exact ht1.kept (fun g hg => by rw [Below.heap_setCell _ _ _ _ (hg' g hg).2, Below.heap_setCell _ _ _ _ (hg' g hg).1])
    · intro k hk hkc hke
      rw [Below.heap_setCell _ _ _ _ hkc, Below.heap_setCell _ _ _ _ (fun e2 => hke (by rw [e2]; exact rb_mem e))]
      exact hg1.block k hk (fun e2 => hke (hown k e2.symm))

end Go.Proofs.YtaekieoingflaaaGreatDoor
