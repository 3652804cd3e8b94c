/-
  roll's Press, Read, Pressed, Room.
-/
import Derived.Test.YtaekieoingflaaaGreatDoorRoll6
import Derived.Test.YtaekieoingflaaaGreatDoorPouch3
namespace Go.Proofs.YtaekieoingflaaaGreatDoor
open Go.RowKit Go.Maps Go.Proofs.MapD Go.Proofs.Chest

set_option maxRecDepth 100000 in
set_option maxHeartbeats 4000000 in
theorem press_old {w : World} {c room : Nat} {m : Option Nat} {L : List En} (h : RepL w c room m L) {e : En} (he : e ∈ L) :
    Calls Tryz.prog 23 #[.pointer (some ⟨c, 0, none⟩), .string e.nm] w fun x w' => x = .returned (.int .i64 0) ∧ Turns w c (foots c m L) ⟨room, Chest.set (ab L) e.nm ⟨e.r.t, e.r.t.size, true⟩⟩ w' := by
  have hT := (h.ens e he).2
  have hroom := h.wf.room
  have hts : e.r.t.size ≤ total (ab L) := total_le (e := (e.nm, e.r)) (List.mem_map.2 ⟨e, he, rfl⟩ : (e.nm, e.r) ∈ ab L)
  have hpr : e.r.p ≤ e.r.t.size := h.wf.pressed (e.nm, e.r) (List.mem_map.2 ⟨e, he, rfl⟩)
  have hnn : okName e.nm = true := h.wf.names (e.nm, e.r) (List.mem_map.2 ⟨e, he, rfl⟩)
  have hn10 : e.nm.size ≤ 10 := by
    unfold okName at hnn
    simp only [Bool.and_eq_true, decide_eq_true_eq] at hnn
    exact hnn.1.2
  simp only at hroom
  have hsz : e.r.t.size ≤ 1048576 := by omega
  have hrb : e.rb < w.heap.size := h.elt he (rb_mem e)
  have hcw : c < w.heap.size := h.ch.lt
  have hcb : c ≠ e.rb := fun e1 => h.apart.ce e he (by rw [e1]; exact rb_mem e)
  obtain ⟨⟨r0, r1, r2⟩, z0, z1, z2⟩ := (h.ens e he).1
  obtain ⟨⟨c0, c1⟩, y0, y1⟩ := h.ch
  obtain ⟨ad, cap, hv⟩ := text_shape hT
  rw [hv] at r0
  have HV := Lib.hid hv
  have HF := Lib.hid (find_some h he (by unfold maxLen; omega))
  have HH := Lib.hid h
  have HT := Lib.hid hT
  clear hT hv hnn
  have hwf : Wf ⟨room, Chest.set (ab L) e.nm ⟨e.r.t, e.r.t.size, true⟩⟩ := by
    have hg : get (ab L) e.nm = some e.r := get_of_mem h.wf.apart (List.mem_map.2 ⟨e, he, rfl⟩)
    have := wf_press h.wf e.nm
    unfold press at this
    rw [hg] at this
    exact this
  have HW := Lib.hid hwf
  clear h hwf
  go_enter Tryz.func23, Tryz.ntmps23
  go_wp2_with (go_at_call 47; refine HF.out.mono ?_; rintro _ w1 ⟨rfl, rfl⟩)
  go_ret
  refine ⟨rfl, ?_⟩
  have hR := RepL.repl HH.out he (e' := ⟨e.nm, e.rb, e.v, ⟨e.r.t, e.r.t.size, true⟩⟩) (room' := room) (w' := (w.setCell ⟨e.rb, 1, none⟩ (.int .i64 (e.r.t.size : Int))).setCell ⟨e.rb, 2, none⟩ (.bool true)) rfl rfl
    (fun g hg => .inl hg) ?_ ⟨⟨⟨?_, ?_, ?_⟩, ?_, ?_, ?_⟩, ?_⟩ ?_ HW.out
  · obtain ⟨h1, h2⟩ := hR
    refine ⟨_, ⟨m, _, h1, (ab_repl L ⟨e.nm, e.rb, e.v, ⟨e.r.t, e.r.t.size, true⟩⟩).symm, rfl⟩, h2, ?_⟩
    have hf : e.rb ∈ foots c m L := by
      unfold foots
      exact List.mem_cons_of_mem _ (List.mem_append_right _ (List.mem_flatMap.2 ⟨e, he, rb_mem e⟩))
    exact ((Only.refl _ w).setCell (.inl hf) _).setCell (.inl hf) _
  · refine HH.out.ch.kept ?_
    rw [Below.heap_setCell _ _ _ _ hcb, Below.heap_setCell _ _ _ _ hcb]
  · show World.cell? _ _ = some e.v
    rw [HV.out]
    go_simp
  · go_simp
  · go_simp
  · go_simp
  · go_simp
  · go_simp
  · refine HT.out.kept (fun g hg => ?_)
    have : g ≠ e.rb := fun e1 => HH.out.apart.ee e he (by rw [← e1]; exact hg)
    rw [Below.heap_setCell _ _ _ _ this, Below.heap_setCell _ _ _ _ this]
  · intro k hk hkc hke
    have : k ≠ e.rb := fun e1 => hke (by rw [e1]; exact rb_mem e)
    rw [Below.heap_setCell _ _ _ _ this, Below.heap_setCell _ _ _ _ this]

set_option maxRecDepth 100000 in
set_option maxHeartbeats 4000000 in
theorem press_none {w : World} {c room : Nat} {m : Option Nat} {L : List En} (h : RepL w c room m L) (n : ByteArray) (hn : ∀ e ∈ L, e.nm ≠ n) (hs : n.size ≤ 1000000) :
    Calls Tryz.prog 23 #[.pointer (some ⟨c, 0, none⟩), .string n] w fun x w' => x = .returned (.int .i64 6) ∧ w = w' := by
  go_enter Tryz.func23, Tryz.ntmps23
  go_wp2_with (go_at_call 47; refine (find_none h n hn (by unfold maxLen; omega)).mono ?_; rintro _ w1 ⟨rfl, rfl⟩)
  go_ret
  exact ⟨rfl, rfl⟩

set_option maxRecDepth 100000 in
set_option maxHeartbeats 4000000 in
theorem press_nil (n : ByteArray) (w : World) :
    Calls Tryz.prog 23 #[.pointer none, .string n] w fun x w' => x = .returned (.int .i64 7) ∧ w = w' := by
  go_enter Tryz.func23, Tryz.ntmps23
  go_wp2_with (go_at_call 47; refine (find_nil _ _).mono ?_; rintro _ w1 ⟨rfl, rfl⟩)
  go_ret
  exact ⟨rfl, rfl⟩

theorem text_conv {w : World} {v : Value} {t : ByteArray} (h : Text w v t) : (convert 50 9 v).run Tryz.prog w = .ok (.string t) w := conv_owned h

set_option maxRecDepth 100000 in
set_option maxHeartbeats 4000000 in
theorem read_old {w : World} {c room : Nat} {m : Option Nat} {L : List En} (h : RepL w c room m L) {e : En} (he : e ∈ L) :
    Calls Tryz.prog 16 #[.pointer (some ⟨c, 0, none⟩), .string e.nm] w fun x w' => x = .returned (.tuple #[.string e.r.t, .bool true]) ∧ w = w' := by
  have hT := (h.ens e he).2
  have hroom := h.wf.room
  have hts : e.r.t.size ≤ total (ab L) := total_le (e := (e.nm, e.r)) (List.mem_map.2 ⟨e, he, rfl⟩ : (e.nm, e.r) ∈ ab L)
  have hpr : e.r.p ≤ e.r.t.size := h.wf.pressed (e.nm, e.r) (List.mem_map.2 ⟨e, he, rfl⟩)
  have hnn : okName e.nm = true := h.wf.names (e.nm, e.r) (List.mem_map.2 ⟨e, he, rfl⟩)
  have hn10 : e.nm.size ≤ 10 := by
    unfold okName at hnn
    simp only [Bool.and_eq_true, decide_eq_true_eq] at hnn
    exact hnn.1.2
  simp only at hroom
  have hsz : e.r.t.size ≤ 1048576 := by omega
  have hrb : e.rb < w.heap.size := h.elt he (rb_mem e)
  have hcw : c < w.heap.size := h.ch.lt
  have hcb : c ≠ e.rb := fun e1 => h.apart.ce e he (by rw [e1]; exact rb_mem e)
  obtain ⟨⟨r0, r1, r2⟩, z0, z1, z2⟩ := (h.ens e he).1
  obtain ⟨⟨c0, c1⟩, y0, y1⟩ := h.ch
  obtain ⟨ad, cap, hv⟩ := text_shape hT
  rw [hv] at r0
  have HV := Lib.hid hv
  have HF := Lib.hid (find_some h he (by unfold maxLen; omega))
  have HH := Lib.hid h
  have HT := Lib.hid hT
  clear hT hv hnn
  have hcv := text_conv HT.out
  rw [HV.out] at hcv
  go_enter Tryz.func16, Tryz.ntmps16
  go_wp2_with (go_at_call 47; refine HF.out.mono ?_; rintro _ w1 ⟨rfl, rfl⟩)
  exact bodyPost_ret (v := .tuple #[.string e.r.t, .bool true]) (by simp [results, Tryz.results16, go_sem]) rfl ⟨rfl, rfl⟩

set_option maxRecDepth 100000 in
set_option maxHeartbeats 4000000 in
theorem read_none {w : World} {c room : Nat} {m : Option Nat} {L : List En} (h : RepL w c room m L) (n : ByteArray) (hn : ∀ e ∈ L, e.nm ≠ n) (hs : n.size ≤ 1000000) :
    Calls Tryz.prog 16 #[.pointer (some ⟨c, 0, none⟩), .string n] w fun x w' => x = .returned (.tuple #[.string ⟨#[]⟩, .bool false]) ∧ w = w' := by
  go_enter Tryz.func16, Tryz.ntmps16
  go_wp2_with (go_at_call 47; refine (find_none h n hn (by unfold maxLen; omega)).mono ?_; rintro _ w1 ⟨rfl, rfl⟩)
  exact bodyPost_ret (v := .tuple #[.string ⟨#[]⟩, .bool false]) (by simp [results, Tryz.results16, go_sem]) rfl ⟨rfl, rfl⟩

set_option maxRecDepth 100000 in
set_option maxHeartbeats 4000000 in
theorem read_nil (n : ByteArray) (w : World) :
    Calls Tryz.prog 16 #[.pointer none, .string n] w fun x w' => x = .returned (.tuple #[.string ⟨#[]⟩, .bool false]) ∧ w = w' := by
  go_enter Tryz.func16, Tryz.ntmps16
  go_wp2_with (go_at_call 47; refine (find_nil _ _).mono ?_; rintro _ w1 ⟨rfl, rfl⟩)
  exact bodyPost_ret (v := .tuple #[.string ⟨#[]⟩, .bool false]) (by simp [results, Tryz.results16, go_sem]) rfl ⟨rfl, rfl⟩

set_option maxRecDepth 100000 in
set_option maxHeartbeats 4000000 in
theorem pressed_old {w : World} {c room : Nat} {m : Option Nat} {L : List En} (h : RepL w c room m L) {e : En} (he : e ∈ L) :
    Calls Tryz.prog 27 #[.pointer (some ⟨c, 0, none⟩), .string e.nm] w fun x w' => x = .returned (.int .i64 (e.r.p : Int)) ∧ w = w' := by
  have hT := (h.ens e he).2
  have hroom := h.wf.room
  have hts : e.r.t.size ≤ total (ab L) := total_le (e := (e.nm, e.r)) (List.mem_map.2 ⟨e, he, rfl⟩ : (e.nm, e.r) ∈ ab L)
  have hpr : e.r.p ≤ e.r.t.size := h.wf.pressed (e.nm, e.r) (List.mem_map.2 ⟨e, he, rfl⟩)
  have hnn : okName e.nm = true := h.wf.names (e.nm, e.r) (List.mem_map.2 ⟨e, he, rfl⟩)
  have hn10 : e.nm.size ≤ 10 := by
    unfold okName at hnn
    simp only [Bool.and_eq_true, decide_eq_true_eq] at hnn
    exact hnn.1.2
  simp only at hroom
  have hsz : e.r.t.size ≤ 1048576 := by omega
  have hrb : e.rb < w.heap.size := h.elt he (rb_mem e)
  have hcw : c < w.heap.size := h.ch.lt
  have hcb : c ≠ e.rb := fun e1 => h.apart.ce e he (by rw [e1]; exact rb_mem e)
  obtain ⟨⟨r0, r1, r2⟩, z0, z1, z2⟩ := (h.ens e he).1
  obtain ⟨⟨c0, c1⟩, y0, y1⟩ := h.ch
  obtain ⟨ad, cap, hv⟩ := text_shape hT
  rw [hv] at r0
  have HV := Lib.hid hv
  have HF := Lib.hid (find_some h he (by unfold maxLen; omega))
  have HH := Lib.hid h
  have HT := Lib.hid hT
  clear hT hv hnn
  go_enter Tryz.func27, Tryz.ntmps27
  go_wp2_with (go_at_call 47; refine HF.out.mono ?_; rintro _ w1 ⟨rfl, rfl⟩)
  go_ret
  exact ⟨rfl, rfl⟩

set_option maxRecDepth 100000 in
set_option maxHeartbeats 4000000 in
theorem pressed_none {w : World} {c room : Nat} {m : Option Nat} {L : List En} (h : RepL w c room m L) (n : ByteArray) (hn : ∀ e ∈ L, e.nm ≠ n) (hs : n.size ≤ 1000000) :
    Calls Tryz.prog 27 #[.pointer (some ⟨c, 0, none⟩), .string n] w fun x w' => x = .returned (.int .i64 0) ∧ w = w' := by
  go_enter Tryz.func27, Tryz.ntmps27
  go_wp2_with (go_at_call 47; refine (find_none h n hn (by unfold maxLen; omega)).mono ?_; rintro _ w1 ⟨rfl, rfl⟩)
  go_ret
  exact ⟨rfl, rfl⟩

set_option maxRecDepth 100000 in
set_option maxHeartbeats 4000000 in
theorem pressed_nil (n : ByteArray) (w : World) :
    Calls Tryz.prog 27 #[.pointer none, .string n] w fun x w' => x = .returned (.int .i64 0) ∧ w = w' := by
  go_enter Tryz.func27, Tryz.ntmps27
  go_wp2_with (go_at_call 47; refine (find_nil _ _).mono ?_; rintro _ w1 ⟨rfl, rfl⟩)
  go_ret
  exact ⟨rfl, rfl⟩

set_option maxRecDepth 100000 in
set_option maxHeartbeats 4000000 in
theorem room_l {w : World} {c room : Nat} {m : Option Nat} {L : List En} (h : RepL w c room m L) :
    Calls Tryz.prog 28 #[.pointer (some ⟨c, 0, none⟩)] w fun x w' => x = .returned (.int .i64 (room : Int)) ∧ w = w' := by
  obtain ⟨⟨c0, c1⟩, y0, y1⟩ := h.ch
  go_enter Tryz.func28, Tryz.ntmps28
  go_wp2_with (fail)
  go_ret
  exact ⟨rfl, rfl⟩

set_option maxRecDepth 100000 in
set_option maxHeartbeats 4000000 in
theorem room_nil (w : World) :
    Calls Tryz.prog 28 #[.pointer none] w fun x w' => x = .returned (.int .i64 0) ∧ w = w' := by
  go_enter Tryz.func28, Tryz.ntmps28
  go_wp2_with (fail)
  go_ret
  exact ⟨rfl, rfl⟩

end Go.Proofs.YtaekieoingflaaaGreatDoor
