/-
  roll's Cut.
-/
import Derived.Test.YtaekieoingflaaaGreatDoorRoll7
import Derived.StillTailTactics
namespace Go.Proofs.YtaekieoingflaaaGreatDoor
open Go.RowKit Go.Maps Go.Proofs.MapD Go.Proofs.Chest

set_option maxRecDepth 100000 in
set_option maxHeartbeats 4000000 in
theorem cut_none {w : World} {c room : Nat} {m : Option Nat} {L : List En} (h : RepL w c room m L) (n : ByteArray) (hn : ∀ e ∈ L, e.nm ≠ n) (hs : n.size ≤ 1000000) (k : Int) :
    Calls Tryz.prog 24 #[.pointer (some ⟨c, 0, none⟩), .string n, .int .i64 k] w fun x w' => x = .returned (.int .i64 6) ∧ w = w' := by
  go_enter Tryz.func24, Tryz.ntmps24
  go_wp2_with (go_at_call 47; refine (find_none h n hn (by unfold maxLen; omega)).mono ?_; rintro _ w1 ⟨rfl, rfl⟩)
  go_ret
  exact ⟨rfl, rfl⟩

set_option maxRecDepth 100000 in
set_option maxHeartbeats 4000000 in
theorem cut_nil (n : ByteArray) (k : Int) (w : World) :
    Calls Tryz.prog 24 #[.pointer none, .string n, .int .i64 k] w fun x w' => x = .returned (.int .i64 7) ∧ w = w' := by
  go_enter Tryz.func24, Tryz.ntmps24
  go_wp2_with (go_at_call 47; refine (find_nil _ _).mono ?_; rintro _ w1 ⟨rfl, rfl⟩)
  go_ret
  exact ⟨rfl, rfl⟩

set_option maxRecDepth 100000 in
set_option maxHeartbeats 4000000 in
theorem cut_below {w : World} {c room : Nat} {m : Option Nat} {L : List En} (h : RepL w c room m L) {e : En} (he : e ∈ L) (k : Int) (hk : k < 0) :
    Calls Tryz.prog 24 #[.pointer (some ⟨c, 0, none⟩), .string e.nm, .int .i64 k] w fun x w' => x = .returned (.int .i64 4) ∧ w = w' := by
  have hT := (h.ens e he).2
  have hroom := h.wf.room
  have hts : e.r.t.size ≤ total (ab L) := total_le (e := (e.nm, e.r)) (List.mem_map.2 ⟨e, he, rfl⟩ : (e.nm, e.r) ∈ ab L)
  have hpr : e.r.p ≤ e.r.t.size := h.wf.pressed (e.nm, e.r) (List.mem_map.2 ⟨e, he, rfl⟩)
  have hnn : okName e.nm = true := h.wf.names (e.nm, e.r) (List.mem_map.2 ⟨e, he, rfl⟩)
  have hn10 : e.nm.size ≤ 10 := by
    unfold okName at hnn
    simp only [Bool.and_eq_true, decide_eq_true_eq] at hnn
    exact hnn.1.2
  simp only at hroom
  have hsz : e.r.t.size ≤ 1048576 := by omega
  have hrb : e.rb < w.heap.size := h.elt he (rb_mem e)
  have hcw : c < w.heap.size := h.ch.lt
  have hcb : c ≠ e.rb := fun e1 => h.apart.ce e he (by rw [e1]; exact rb_mem e)
  obtain ⟨⟨r0, r1, r2⟩, z0, z1, z2⟩ := (h.ens e he).1
  obtain ⟨⟨c0, c1⟩, y0, y1⟩ := h.ch
  obtain ⟨ad, cap, hv⟩ := text_shape hT
  rw [hv] at r0
  have HV := Lib.hid hv
  have HF := Lib.hid (find_some h he (by unfold maxLen; omega))
  have HH := Lib.hid h
  have HT := Lib.hid hT
  clear hT hv hnn
  go_enter Tryz.func24, Tryz.ntmps24
  go_wp2_with (go_at_call 47; refine HF.out.mono ?_; rintro _ w1 ⟨rfl, rfl⟩)
  go_ret
  exact ⟨rfl, rfl⟩

set_option maxRecDepth 100000 in
set_option maxHeartbeats 4000000 in
theorem cut_above {w : World} {c room : Nat} {m : Option Nat} {L : List En} (h : RepL w c room m L) {e : En} (he : e ∈ L) (k : Int) (hk : ¬ k < 0) (hk1 : (e.r.t.size : Int) < k) :
    Calls Tryz.prog 24 #[.pointer (some ⟨c, 0, none⟩), .string e.nm, .int .i64 k] w fun x w' => x = .returned (.int .i64 4) ∧ w = w' := by
  have hT := (h.ens e he).2
  have hroom := h.wf.room
  have hts : e.r.t.size ≤ total (ab L) := total_le (e := (e.nm, e.r)) (List.mem_map.2 ⟨e, he, rfl⟩ : (e.nm, e.r) ∈ ab L)
  have hpr : e.r.p ≤ e.r.t.size := h.wf.pressed (e.nm, e.r) (List.mem_map.2 ⟨e, he, rfl⟩)
  have hnn : okName e.nm = true := h.wf.names (e.nm, e.r) (List.mem_map.2 ⟨e, he, rfl⟩)
  have hn10 : e.nm.size ≤ 10 := by
    unfold okName at hnn
    simp only [Bool.and_eq_true, decide_eq_true_eq] at hnn
    exact hnn.1.2
  simp only at hroom
  have hsz : e.r.t.size ≤ 1048576 := by omega
  have hrb : e.rb < w.heap.size := h.elt he (rb_mem e)
  have hcw : c < w.heap.size := h.ch.lt
  have hcb : c ≠ e.rb := fun e1 => h.apart.ce e he (by rw [e1]; exact rb_mem e)
  obtain ⟨⟨r0, r1, r2⟩, z0, z1, z2⟩ := (h.ens e he).1
  obtain ⟨⟨c0, c1⟩, y0, y1⟩ := h.ch
  obtain ⟨ad, cap, hv⟩ := text_shape hT
  rw [hv] at r0
  have HV := Lib.hid hv
  have HF := Lib.hid (find_some h he (by unfold maxLen; omega))
  have HH := Lib.hid h
  have HT := Lib.hid hT
  clear hT hv hnn
  go_enter Tryz.func24, Tryz.ntmps24
  go_wp2_with (go_at_call 47; refine HF.out.mono ?_; rintro _ w1 ⟨rfl, rfl⟩)
  go_ret
  exact ⟨rfl, rfl⟩

set_option maxRecDepth 100000 in
set_option maxHeartbeats 4000000 in
theorem cut_old {w : World} {c room : Nat} {m : Option Nat} {L : List En} (h : RepL w c room m L) {e : En} (he : e ∈ L) (k : Nat) (hk : k ≤ e.r.t.size) :
    Calls Tryz.prog 24 #[.pointer (some ⟨c, 0, none⟩), .string e.nm, .int .i64 k] w fun x w' => x = .returned (.int .i64 0) ∧ Turns w c (foots c m L) ⟨room + (e.r.t.size - k), Chest.set (ab L) e.nm ⟨e.r.t.extract 0 k, min e.r.p k, true⟩⟩ w' := by
  have hT := (h.ens e he).2
  have hroom := h.wf.room
  have hts : e.r.t.size ≤ total (ab L) := total_le (e := (e.nm, e.r)) (List.mem_map.2 ⟨e, he, rfl⟩ : (e.nm, e.r) ∈ ab L)
  have hpr : e.r.p ≤ e.r.t.size := h.wf.pressed (e.nm, e.r) (List.mem_map.2 ⟨e, he, rfl⟩)
  have hnn : okName e.nm = true := h.wf.names (e.nm, e.r) (List.mem_map.2 ⟨e, he, rfl⟩)
  have hn10 : e.nm.size ≤ 10 := by
    unfold okName at hnn
    simp only [Bool.and_eq_true, decide_eq_true_eq] at hnn
    exact hnn.1.2
  simp only at hroom
  have hsz : e.r.t.size ≤ 1048576 := by omega
  have hrb : e.rb < w.heap.size := h.elt he (rb_mem e)
  have hcw : c < w.heap.size := h.ch.lt
  have hcb : c ≠ e.rb := fun e1 => h.apart.ce e he (by rw [e1]; exact rb_mem e)
  obtain ⟨⟨r0, r1, r2⟩, z0, z1, z2⟩ := (h.ens e he).1
  obtain ⟨⟨c0, c1⟩, y0, y1⟩ := h.ch
  obtain ⟨ad, cap, hv⟩ := text_shape hT
  rw [hv] at r0
  have HV := Lib.hid hv
  have HF := Lib.hid (find_some h he (by unfold maxLen; omega))
  have HH := Lib.hid h
  have HT := Lib.hid hT
  clear hT hv hnn
  have hwf : Wf ⟨room + (e.r.t.size - k), Chest.set (ab L) e.nm ⟨e.r.t.extract 0 k, min e.r.p k, true⟩⟩ := by
    have hg : get (ab L) e.nm = some e.r := get_of_mem h.wf.apart (List.mem_map.2 ⟨e, he, rfl⟩)
    have := wf_cut h.wf e.nm k
    unfold cut at this
    rw [hg] at this
    simp only at this
    rw [if_neg (by omega)] at this
    exact this
  have HW := Lib.hid hwf
  have k1 : ¬ (k : Int) < 0 := by omega
  have k2 : ¬ (e.r.t.size : Int) < (k : Int) := by omega
  have k2' : ¬ e.r.t.size < k := by omega
  have s1 : IntKind.i64.wrap ((e.r.t.size : Int) - (k : Int)) = (e.r.t.size : Int) - (k : Int) := IntWalk.i64_in _ (by omega)
  have s2 : IntKind.i64.wrap ((room : Int) + ((e.r.t.size : Int) - (k : Int))) = (room : Int) + ((e.r.t.size : Int) - (k : Int)) := IntWalk.i64_in _ (by omega)
  clear h hwf
  go_enter Tryz.func24, Tryz.ntmps24
  go_wp2_with (go_at_call 47; refine HF.out.mono ?_; rintro _ w1 ⟨rfl, rfl⟩)
  go_still_tail 14, (by kernel_rfl)
  go_wp2_with fail
  have h1 : Only (foots c m L) w (w.setCell ⟨c, 0, none⟩ (.int .i64 ((room : Int) + ((e.r.t.size : Int) - (k : Int))))).drew := ((Only.refl _ w).setCell (.inl (by simp [foots])) _).drew
  have kb1 : (w.setCell ⟨c, 0, none⟩ (.int .i64 ((room : Int) + ((e.r.t.size : Int) - (k : Int))))).drew.heap[e.rb]? = w.heap[e.rb]? := Below.heap_setCell _ _ _ _ (fun e1 => hcb e1.symm)
  have ko1 : ∀ j, j ≠ c → (w.setCell ⟨c, 0, none⟩ (.int .i64 ((room : Int) + ((e.r.t.size : Int) - (k : Int))))).drew.heap[j]? = w.heap[j]? := fun j hj => Below.heap_setCell _ _ _ _ hj
  have hc1 : ChAt (w.setCell ⟨c, 0, none⟩ (.int .i64 ((room : Int) + ((e.r.t.size : Int) - (k : Int))))).drew c (room + (e.r.t.size - k)) m := by
    have e1 : ((room + (e.r.t.size - k) : Nat) : Int) = (room : Int) + ((e.r.t.size : Int) - (k : Int)) := by omega
    rw [ChAt, e1]
    refine ⟨⟨?_, ?_⟩, ?_, ?_⟩ <;> go_simp
  generalize (w.setCell ⟨c, 0, none⟩ (.int .i64 ((room : Int) + ((e.r.t.size : Int) - (k : Int))))).drew = W1 at *
  have ht1 : Text W1 (.slice ad e.r.t.size cap) e.r.t := by
    rw [← HV.out]
    exact HT.out.kept (fun g hg => ko1 g (fun e1 => HH.out.apart.ce e he (by rw [← e1]; simp [En.foot, hg])))
  have H1 := Lib.hid (And.intro h1 (And.intro kb1 (And.intro ko1 hc1)))
  have hr1 : e.rb < W1.heap.size := Nat.lt_of_lt_of_le hrb h1.size
  clear h1 kb1 ko1 hc1 c0 c1 y0 y1
  refine (shorten_p ht1 (by omega) k hk).mono ?_
  rintro _ w2 ⟨v', rfl, ht2, hb2, hl2⟩
  obtain ⟨ad', cap', rfl⟩ := text_shape ht2
  have ez : (e.r.t.extract 0 k).size = k := by rw [ByteArray.size_extract]; omega
  rw [ez] at ht2 hl2 ⊢
  have H2 := Lib.hid (And.intro ht2 (And.intro hb2 hl2))
  have kb2 : w2.heap[e.rb]? = w.heap[e.rb]? := by rw [hb2.block _ hr1]; exact H1.out.2.1
  have q0 : w2.cell? ⟨e.rb, 0, none⟩ = some (.slice ad e.r.t.size cap) := by rw [cell_of_block kb2]; exact r0
  have q1 : w2.cell? ⟨e.rb, 1, none⟩ = some (.int .i64 (e.r.p : Int)) := by rw [cell_of_block kb2]; exact r1
  have q2 : w2.cell? ⟨e.rb, 2, none⟩ = some (.bool e.r.s) := by rw [cell_of_block kb2]; exact r2
  have x0 : w2.frozen? ⟨e.rb, 0, none⟩ = false := by rw [frozen_of_block kb2]; exact z0
  have x1 : w2.frozen? ⟨e.rb, 1, none⟩ = false := by rw [frozen_of_block kb2]; exact z1
  have x2 : w2.frozen? ⟨e.rb, 2, none⟩ = false := by rw [frozen_of_block kb2]; exact z2
  clear ht2 hb2 hl2 kb2 ht1 ez r0 r1 r2 z0 z1 z2
  go_wp2
  go_ret
  refine ⟨rfl, ?_⟩
  obtain ⟨ht2, hb2, hl2⟩ := H2.out
  have em : ((min e.r.p k : Nat) : Int) = min (e.r.p : Int) (k : Int) := by omega
  have hrv : ∀ g, e.v.ownBlock = some g → g ≠ e.rb := fun g hg e1 => HH.out.apart.ee e he (by rw [hg, e1])
  have hg' : ∀ g, (Value.slice ad' k cap').ownBlock = some g → g ≠ e.rb := fun g hg => by
    rcases hl2 g hg with h1 | h1
    · exact hrv g (by rw [HV.out]; exact h1)
    · omega
  have hl : ∀ g, (Value.slice ad' k cap').ownBlock = some g → e.v.ownBlock = some g ∨ w.heap.size ≤ g := fun g hg => by
    rcases hl2 g hg with h1 | h1
    · left; rw [HV.out]; exact h1
    · right; exact Nat.le_trans H1.out.1.size h1
  have hk3 : ∀ j, j < w.heap.size → j ≠ c → j ≠ e.rb → (((w2.setCell ⟨e.rb, 0, none⟩ (.slice ad' k cap')).setCell ⟨e.rb, 1, none⟩ (.int .i64 (min (e.r.p : Int) (k : Int)))).setCell ⟨e.rb, 2, none⟩ (.bool true)).heap[j]? = w.heap[j]? := fun j hj hjc hjr => by
    rw [Below.heap_setCell _ _ _ _ hjr, Below.heap_setCell _ _ _ _ hjr, Below.heap_setCell _ _ _ _ hjr, hb2.block j (Nat.lt_of_lt_of_le hj H1.out.1.size), H1.out.2.2.1 j hjc]
  have hR := RepL.repl HH.out he (e' := ⟨e.nm, e.rb, .slice ad' k cap', ⟨e.r.t.extract 0 k, min e.r.p k, true⟩⟩) (room' := room + (e.r.t.size - k)) (w' := ((w2.setCell ⟨e.rb, 0, none⟩ (.slice ad' k cap')).setCell ⟨e.rb, 1, none⟩ (.int .i64 (min (e.r.p : Int) (k : Int)))).setCell ⟨e.rb, 2, none⟩ (.bool true)) rfl rfl
    hl ?_ ⟨⟨⟨?_, ?_, ?_⟩, ?_, ?_, ?_⟩, ?_⟩ (fun j hj hjc hje => hk3 j hj hjc (fun e1 => hje (by rw [e1]; exact rb_mem e))) HW.out
  · obtain ⟨h1, h2⟩ := hR
    refine ⟨_, ⟨m, _, h1, (ab_repl L ⟨e.nm, e.rb, .slice ad' k cap', ⟨e.r.t.extract 0 k, min e.r.p k, true⟩⟩).symm, rfl⟩, h2, ?_⟩
    have hf : e.rb ∈ foots c m L := by
      unfold foots
      exact List.mem_cons_of_mem _ (List.mem_append_right _ (List.mem_flatMap.2 ⟨e, he, rb_mem e⟩))
    exact ((((H1.out.1.trans (Only.of_below hb2 []) (by simp)).setCell (.inl hf) _).setCell (.inl hf) _).setCell (.inl hf) _)
  · refine H1.out.2.2.2.kept ?_
    rw [Below.heap_setCell _ _ _ _ hcb, Below.heap_setCell _ _ _ _ hcb, Below.heap_setCell _ _ _ _ hcb, hb2.block c (Nat.lt_of_lt_of_le hcw H1.out.1.size)]
  · show World.cell? _ _ = some (.slice ad' k cap')
    go_simp
  · rw [em]
    go_simp
  · go_simp
  · go_simp
  · go_simp
  · go_simp
  · exact ht2.kept (fun g hg => by rw [Below.heap_setCell _ _ _ _ (hg' g hg), Below.heap_setCell _ _ _ _ (hg' g hg), Below.heap_setCell _ _ _ _ (hg' g hg)])

/-- Cut, at a chest. -/
theorem rcut_p {w : World} {c : Nat} {F : List Nat} {st : St} (h : Rep w c F st) (n : ByteArray) (hn : n.size ≤ 1000000) (k : Int) :
    Calls Tryz.prog 24 #[.pointer (some ⟨c, 0, none⟩), .string n, .int .i64 k] w fun x w' => x = .returned (.int .i64 (cut st n k).1) ∧ Turns w c F (cut st n k).2 w' := by
  have h0 := h
  obtain ⟨m, L, hR, hl, rfl⟩ := h
  obtain ⟨room, l⟩ := st
  simp only at hR hl
  subst hl
  unfold cut
  rcases get_ab L n with ⟨e, he, rfl, hg⟩ | ⟨he, hg⟩
  · simp only [hg]
    by_cases h1 : k < 0
    · rw [if_pos (.inl h1)]
      exact (cut_below hR he k h1).mono fun x w' ⟨h1, h2⟩ => ⟨h1, by subst h2; exact Turns.same h0⟩
    · by_cases h2 : (e.r.t.size : Int) < k
      · rw [if_pos (.inr h2)]
        exact (cut_above hR he k h1 h2).mono fun x w' ⟨h1, h2⟩ => ⟨h1, by subst h2; exact Turns.same h0⟩
      · rw [if_neg (by omega)]
        obtain ⟨j, rfl⟩ : ∃ j : Nat, k = j := ⟨k.toNat, by omega⟩
        exact cut_old hR he j (by omega)
  · simp only [hg]
    exact (cut_none hR n he hn k).mono fun x w' ⟨h1, h2⟩ => ⟨h1, by subst h2; exact Turns.same h0⟩

/-- Press, at a chest. -/
theorem rpress_p {w : World} {c : Nat} {F : List Nat} {st : St} (h : Rep w c F st) (n : ByteArray) (hn : n.size ≤ 1000000) :
    Calls Tryz.prog 23 #[.pointer (some ⟨c, 0, none⟩), .string n] w fun x w' => x = .returned (.int .i64 (press st n).1) ∧ Turns w c F (press st n).2 w' := by
  have h0 := h
  obtain ⟨m, L, hR, hl, rfl⟩ := h
  obtain ⟨room, l⟩ := st
  simp only at hR hl
  subst hl
  unfold press
  rcases get_ab L n with ⟨e, he, rfl, hg⟩ | ⟨he, hg⟩
  · simp only [hg]
    exact press_old hR he
  · simp only [hg]
    exact (press_none hR n he hn).mono fun x w' ⟨h1, h2⟩ => ⟨h1, by subst h2; exact Turns.same h0⟩

/-- What Read tells. -/
def readS (st : St) (n : ByteArray) : ByteArray × Bool :=
  match get st.l n with
  | none => (⟨#[]⟩, false)
  | some r => (r.t, true)

theorem rread_p {w : World} {c : Nat} {F : List Nat} {st : St} (h : Rep w c F st) (n : ByteArray) (hn : n.size ≤ 1000000) :
    Calls Tryz.prog 16 #[.pointer (some ⟨c, 0, none⟩), .string n] w fun x w' => x = .returned (.tuple #[.string (readS st n).1, .bool (readS st n).2]) ∧ w = w' := by
  obtain ⟨m, L, hR, hl, rfl⟩ := h
  obtain ⟨room, l⟩ := st
  simp only at hR hl
  subst hl
  unfold readS
  rcases get_ab L n with ⟨e, he, rfl, hg⟩ | ⟨he, hg⟩
  · simp only [hg]
    exact read_old hR he
  · simp only [hg]
    exact read_none hR n he hn

def pressedS (st : St) (n : ByteArray) : Nat :=
  match get st.l n with
  | none => 0
  | some r => r.p

theorem rpressed_p {w : World} {c : Nat} {F : List Nat} {st : St} (h : Rep w c F st) (n : ByteArray) (hn : n.size ≤ 1000000) :
    Calls Tryz.prog 27 #[.pointer (some ⟨c, 0, none⟩), .string n] w fun x w' => x = .returned (.int .i64 ((pressedS st n : Nat) : Int)) ∧ w = w' := by
  obtain ⟨m, L, hR, hl, rfl⟩ := h
  obtain ⟨room, l⟩ := st
  simp only at hR hl
  subst hl
  unfold pressedS
  rcases get_ab L n with ⟨e, he, rfl, hg⟩ | ⟨he, hg⟩
  · simp only [hg]
    exact pressed_old hR he
  · simp only [hg]
    exact pressed_none hR n he hn

theorem rroom_p {w : World} {c : Nat} {F : List Nat} {st : St} (h : Rep w c F st) :
    Calls Tryz.prog 28 #[.pointer (some ⟨c, 0, none⟩)] w fun x w' => x = .returned (.int .i64 (st.room : Int)) ∧ w = w' := by
  obtain ⟨m, L, hR, hl, rfl⟩ := h
  exact room_l hR

end Go.Proofs.YtaekieoingflaaaGreatDoor
