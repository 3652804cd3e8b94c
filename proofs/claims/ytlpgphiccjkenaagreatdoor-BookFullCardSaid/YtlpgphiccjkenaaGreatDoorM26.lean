/-
 Contracts of the program, and what they rest on.
-/
import Derived.Test.YtlpgphiccjkenaaGreatDoorTk
import Derived.Test.YtlpgphiccjkenaaGreatDoorM09
import Derived.Test.YtlpgphiccjkenaaGreatDoorM14
import Derived.Test.YtlpgphiccjkenaaGreatDoorM25
set_option maxRecDepth 100000
set_option maxHeartbeats 16000000
namespace Go.Proofs.YtlpgphiccjkenaaGreatDoor
open Go.RowKit
theorem F.eight {f : F} (h : f.len = 8) : ∃ k0 n0 s0 l0 k1 n1 s1 l1 k2 n2 s2 l2 k3 n3 s3 l3 k4 n4 s4 l4 k5 n5 s5 l5 k6 n6 s6 l6 k7 n7 s7 l7,
  f = .cons k0 n0 s0 l0 (.cons k1 n1 s1 l1 (.cons k2 n2 s2 l2 (.cons k3 n3 s3 l3 (.cons k4 n4 s4 l4 (.cons k5 n5 s5 l5 (.cons k6 n6 s6 l6 (.cons k7 n7 s7 l7 .nil))))))) := by
 rcases f with _ | ⟨_, _, _, _, f⟩ <;> simp only [F.len] at h
 ·omega
 rcases f with _ | ⟨_, _, _, _, f⟩ <;> simp only [F.len] at h
 ·omega
 rcases f with _ | ⟨_, _, _, _, f⟩ <;> simp only [F.len] at h
 ·omega
 rcases f with _ | ⟨_, _, _, _, f⟩ <;> simp only [F.len] at h
 ·omega
 rcases f with _ | ⟨_, _, _, _, f⟩ <;> simp only [F.len] at h
 ·omega
 rcases f with _ | ⟨_, _, _, _, f⟩ <;> simp only [F.len] at h
 ·omega
 rcases f with _ | ⟨_, _, _, _, f⟩ <;> simp only [F.len] at h
 ·omega
 rcases f with _ | ⟨_, _, _, _, f⟩ <;> simp only [F.len] at h
 ·omega
 rcases f with _ | ⟨_, _, _, _, f⟩ <;> simp only [F.len] at h
 ·exact ⟨_, _, _, _, _, _, _, _, _, _, _, _, _, _, _, _, _, _, _, _, _, _, _, _, _, _, _, _, _, _, _, _, rfl⟩
 ·omega
def OfAns (k n : Int) (s : ByteArray) (l : F) (e : Ending) : Prop :=
 ∃ r : Option De, (e = match r with | some d => .returned (.tuple #[dagg d, .bool true]) | none => .returned (.tuple #[dagg De.zero, .bool false])) ∧
  ∀ d, r = some d ↔ (mayD d ∧ k = 3 ∧ n = 0 ∧ s = ⟨#[]⟩ ∧ l = d.parts)
theorem of_ans {k n : Int} {s : ByteArray} {l : F} {d0 : De} (h0 : ofF l = some d0) (r : Bool) (hr : r = true ↔ (mayD d0 ∧ k = 3 ∧ n = 0 ∧ s = ⟨#[]⟩ ∧ l = d0.parts)) :
  OfAns k n s l (bif r then .returned (.tuple #[dagg d0, .bool true]) else .returned (.tuple #[dagg De.zero, .bool false])) := by
 have key : ∀ d, l = d.parts → d = d0 := fun d h => by
  rw [h, ofF_parts] at h0
  exact Option.some.inj h0
 cases r with
 | true =>
  refine ⟨some d0, rfl, fun d => ⟨fun h => ?_, fun h => ?_⟩⟩
  ·rw [← Option.some.inj h]; exact hr.1 rfl
  ·rw [key d h.2.2.2.2]
 | false =>
  refine ⟨none, rfl, fun d => ⟨fun h => (by cases h), fun h => ?_⟩⟩
  have := key d h.2.2.2.2
  rw [this] at h
  exact absurd (hr.2 h) (by decide)
theorem dof_p (k n : Int) (s : ByteArray) (l : F) (ad : Option Addr) (cap : Nat) (w : World) (hn : l.cnt ≤ 1000000) (hw : l.wf) (hr : RepG w (fun _ => True) ad l) (ht : TzAt w) (he : ErrAt w) :
  Calls Tryz.prog 48 #[.agg #[.int .i64 k, .int .i64 n, .string s, .slice ad l.len cap]] w fun e w' => OfAns k n s l e ∧ Below w.heap.size w w' := by
 by_cases h8 : l.len = 8
 case neg =>
  have hA : OfAns k n s l (.returned (.tuple #[dagg De.zero, .bool false])) := by
   refine ⟨none, rfl, fun d => ⟨fun h => (by cases h), fun h => ?_⟩⟩
   exact absurd (show l.len = 8 by rw [h.2.2.2.2]; rfl) h8
  have HA := Lib.hid hA
  unfold dagg De.zero at HA
  have h8' : ¬ (l.len : Int) = 8 := by omega
  clear hA hn hw hr ht he
  generalize l.len = len at *
  go_enter Tryz.func48, Tryz.ntmps48
  go_wp2_with fail
  exact bodyPost_ret (v := .tuple #[.agg #[.int .i64 0, .string ⟨#[]⟩, .string ⟨#[]⟩, .int .i64 0, .int .i64 0, .string ⟨#[]⟩, .int .i64 0, .int .i64 0], .bool false]) (by simp [results, Tryz.results48, go_sem]) rfl ⟨HA.out, ((Below.refl _ _).alloc (Nat.le_refl _) _).alloc (by simp) _⟩
 case pos =>
  have HE0 := Lib.hid (fun W (hg : RepG W (fun _ => True) ad l) => eq_any k n s l 0 0 ⟨#[]⟩ .nil ad none cap 0 W hn hg (.inl rfl))
  have HE1 := Lib.hid (fun (d : De) (ad2 : Option Addr) (cap2 : Nat) W (hg : RepG W (fun _ => True) ad l) (hg2 : RepG W (fun _ => True) ad2 d.parts) => eq_any k n s l 3 0 ⟨#[]⟩ d.parts ad ad2 cap cap2 W hn hg hg2)
  simp only [De.parts_len] at HE1
  simp only [F.len] at HE0
  rw [h8] at HE0 HE1 ⊢
  obtain ⟨k0, n0, s0, l0, k1, n1, s1, l1, k2, n2, s2, l2, k3, n3, s3, l3, k4, n4, s4, l4, k5, n5, s5, l5, k6, n6, s6, l6, k7, n7, s7, l7, hL⟩ := F.eight h8
  have hof : ofF l = some ⟨n0, s1, s2, n3, n4, s5, n6, n7⟩ := by rw [hL]; rfl
  have hwd : De.wf ⟨n0, s1, s2, n3, n4, s5, n6, n7⟩ := by
   rw [hL] at hw
   obtain ⟨a0, _, _, _, _, _, a3, _, a4, _, _, _, a6, _, a7, _⟩ := hw
   exact ⟨a0, a3, a4, a6, a7⟩
  obtain ⟨bb, hbb⟩ : ∃ bb : Bool, bb = true ↔ mayD ⟨n0, s1, s2, n3, n4, s5, n6, n7⟩ := by
   by_cases h : mayD ⟨n0, s1, s2, n3, n4, s5, n6, n7⟩
   ·exact ⟨true, by simp [h]⟩
   ·exact ⟨false, by simp [h]⟩
  have HVL := Lib.hid (fun W h1 h2 => dval_p ⟨n0, s1, s2, n3, n4, s5, n6, n7⟩ bb hbb hwd W h1 h2)
  have HA0 : Hid (bb = false → ∀ r : Bool, (r = true ↔ F.cons k n s l .nil = .cons 0 0 ⟨#[]⟩ .nil .nil) → r = false ∧ OfAns k n s l (.returned (.tuple #[dagg De.zero, .bool false]))) := Lib.hid (by
   intro hb r hr
   have hrf : r = false := by
    cases r with
    | false => rfl
    | true =>
     have := hr.1 rfl
     rw [hL] at this
     simp at this
   exact ⟨hrf, of_ans hof false ⟨fun h => (by cases h), fun h => (by rw [← hbb, hb] at h; cases h.1)⟩⟩)
  have HA1 : Hid (bb = true → ∀ r : Bool, (r = true ↔ F.cons k n s l .nil = .cons 3 0 ⟨#[]⟩ (De.parts ⟨n0, s1, s2, n3, n4, s5, n6, n7⟩) .nil) → OfAns k n s l (bif r then .returned (.tuple #[dagg ⟨n0, s1, s2, n3, n4, s5, n6, n7⟩, .bool true]) else .returned (.tuple #[dagg De.zero, .bool false]))) := Lib.hid (by
   intro hb r hr
   refine of_ans hof r (hr.trans ⟨fun h => ?_, fun h => ?_⟩)
   ·simp only [F.cons.injEq, and_true] at h
    exact ⟨hbb.1 hb, h⟩
   ·rw [h.2.1, h.2.2.1, h.2.2.2.1, ← h.2.2.2.2])
  have hne : l ≠ .nil := by rw [hL]; simp
  have HRA := Lib.hid hr
  rcases hr with hr | ⟨b, o, rfl, hr⟩
  ·exact absurd hr hne
  have HRF : Hid (RepF w b o (F.cons k0 n0 s0 l0 (.cons k1 n1 s1 l1 (.cons k2 n2 s2 l2 (.cons k3 n3 s3 l3 (.cons k4 n4 s4 l4 (.cons k5 n5 s5 l5 (.cons k6 n6 s6 l6 (.cons k7 n7 s7 l7 .nil))))))))) := Lib.hid (by rw [← hL]; exact hr.repF)
  have HTE := Lib.hid (And.intro ht he)
  have hbw : b < w.heap.size := World.block_lt_of_cell? w _ (show w.cell? ⟨b, o, none⟩ = some (.int .i64 k0) from HRF.out.1)
  unfold dagg De.zero at HA0 HA1
  unfold dagg at HVL
  clear hL hof hwd hbb hne hr ht he hn hw h8
  have hs : ∀ W, Below w.heap.size w W → W.cell? ⟨b, o + 1, none⟩ = some (.int .i64 n0) ∧ W.cell? ⟨b, o + 6, none⟩ = some (.string s1) ∧ W.cell? ⟨b, o + 10, none⟩ = some (.string s2) ∧ W.cell? ⟨b, o + 13, none⟩ = some (.int .i64 n3) ∧ W.cell? ⟨b, o + 17, none⟩ = some (.int .i64 n4) ∧ W.cell? ⟨b, o + 22, none⟩ = some (.string s5) ∧ W.cell? ⟨b, o + 25, none⟩ = some (.int .i64 n6) ∧ W.cell? ⟨b, o + 29, none⟩ = some (.int .i64 n7) := fun W hW => by
   obtain ⟨_, a0, _, _, _, _, a1, _, _, _, a2, _, _, a3, _, _, _, a4, _, _, _, _, a5, _, _, a6, _, _, _, a7, _⟩ := RepF.kept hW (Nat.le_refl _) _ _ _ HRF.out
   exact ⟨a0, a1, a2, a3, a4, a5, a6, a7⟩
  have HS := Lib.hid hs
  clear hs
  go_enter Tryz.func48, Tryz.ntmps48
  go_wp2_with fail
  have hs2 : w.heap.size + 2 = ((w.alloc (.cells #[.int .i64 k, .int .i64 n, .string s, .slice (some ⟨b, o, none⟩) 8 cap] 88)).alloc (.cells #[.int .i64 0, .string ⟨#[]⟩, .string ⟨#[]⟩, .int .i64 0, .int .i64 0, .string ⟨#[]⟩, .int .i64 0, .int .i64 0] 35)).heap.size := by simp
  have HB := Lib.hid (show Below w.heap.size w ((w.alloc (.cells #[.int .i64 k, .int .i64 n, .string s, .slice (some ⟨b, o, none⟩) 8 cap] 88)).alloc (.cells #[.int .i64 0, .string ⟨#[]⟩, .string ⟨#[]⟩, .int .i64 0, .int .i64 0, .string ⟨#[]⟩, .int .i64 0, .int .i64 0] 35)) from ((Below.refl _ _).alloc (Nat.le_refl _) _).alloc (by simp) _)
  have hzz : ∀ W, W = ((w.alloc (.cells #[.int .i64 k, .int .i64 n, .string s, .slice (some ⟨b, o, none⟩) 8 cap] 88)).alloc (.cells #[.int .i64 0, .string ⟨#[]⟩, .string ⟨#[]⟩, .int .i64 0, .int .i64 0, .string ⟨#[]⟩, .int .i64 0, .int .i64 0] 35)) → W.cell? ⟨w.heap.size, 0, none⟩ = some (.int .i64 k) ∧ W.cell? ⟨w.heap.size, 1, none⟩ = some (.int .i64 n) ∧ W.cell? ⟨w.heap.size, 2, none⟩ = some (.string s) ∧ W.cell? ⟨w.heap.size, 3, none⟩ = some (.slice (some ⟨b, o, none⟩) 8 cap) := by
   rintro _ rfl
   refine ⟨?_, ?_, ?_, ?_⟩ <;> go_simp
  have hrz : ∀ W, W = ((w.alloc (.cells #[.int .i64 k, .int .i64 n, .string s, .slice (some ⟨b, o, none⟩) 8 cap] 88)).alloc (.cells #[.int .i64 0, .string ⟨#[]⟩, .string ⟨#[]⟩, .int .i64 0, .int .i64 0, .string ⟨#[]⟩, .int .i64 0, .int .i64 0] 35)) → DeC W (w.heap.size + 1) De.zero ∧ DeW W (w.heap.size + 1) := by
   rintro _ rfl
   refine ⟨⟨?_, ?_, ?_, ?_, ?_, ?_, ?_, ?_⟩, ?_, ?_, ?_, ?_, ?_, ?_, ?_, ?_⟩ <;> go_simp <;> rfl
  generalize (w.alloc (.cells #[.int .i64 k, .int .i64 n, .string s, .slice (some ⟨b, o, none⟩) 8 cap] 88)).alloc (.cells #[.int .i64 0, .string ⟨#[]⟩, .string ⟨#[]⟩, .int .i64 0, .int .i64 0, .string ⟨#[]⟩, .int .i64 0, .int .i64 0] 35) = w0 at *
  have hS0 := HS.out _ HB.out.drew
  refine wp_region_last (S := fun W => W.cell? ⟨b, o + 1, none⟩ = some (.int .i64 n0) ∧ W.cell? ⟨b, o + 6, none⟩ = some (.string s1) ∧ W.cell? ⟨b, o + 10, none⟩ = some (.string s2) ∧ W.cell? ⟨b, o + 13, none⟩ = some (.int .i64 n3) ∧ W.cell? ⟨b, o + 17, none⟩ = some (.int .i64 n4) ∧ W.cell? ⟨b, o + 22, none⟩ = some (.string s5) ∧ W.cell? ⟨b, o + 25, none⟩ = some (.int .i64 n6) ∧ W.cell? ⟨b, o + 29, none⟩ = some (.int .i64 n7)) (by kernel_rfl) (ops := List.toArray [_, _, _, _, _, _, _, _, _, _, _, _, _, _, _, _, _, _, _, _, _, _, _, _, _, _, _, _, _, _, _, _, _, _]) (o := _) rfl (by kernel_rfl) ?_
  refine tk 0 (.slice (some ⟨b, o, none⟩) 8 cap) rfl ?_ hS0 ?_
  ·intro w' ⟨a0, a1, a2, a3, a4, a5, a6, a7⟩; go_simp
  refine tk 1 (.pointer (some ⟨b, o, none⟩)) rfl ?_ hS0 ?_
  ·intro w' ⟨a0, a1, a2, a3, a4, a5, a6, a7⟩; go_simp
  refine tk 2 (.pointer (some ⟨b, o + 1, none⟩)) rfl ?_ hS0 ?_
  ·intro w' ⟨a0, a1, a2, a3, a4, a5, a6, a7⟩; go_simp
  refine tk 3 (.int .i64 n0) rfl ?_ hS0 ?_
  ·intro w' ⟨a0, a1, a2, a3, a4, a5, a6, a7⟩; go_simp
  refine tk 4 (.slice (some ⟨b, o, none⟩) 8 cap) rfl ?_ hS0 ?_
  ·intro w' ⟨a0, a1, a2, a3, a4, a5, a6, a7⟩; go_simp
  refine tk 5 (.pointer (some ⟨b, o + 4, none⟩)) rfl ?_ hS0 ?_
  ·intro w' ⟨a0, a1, a2, a3, a4, a5, a6, a7⟩; go_simp
  refine tk 6 (.pointer (some ⟨b, o + 6, none⟩)) rfl ?_ hS0 ?_
  ·intro w' ⟨a0, a1, a2, a3, a4, a5, a6, a7⟩; go_simp
  refine tk 7 (.string s1) rfl ?_ hS0 ?_
  ·intro w' ⟨a0, a1, a2, a3, a4, a5, a6, a7⟩; go_simp
  refine tk 8 (.slice (some ⟨b, o, none⟩) 8 cap) rfl ?_ hS0 ?_
  ·intro w' ⟨a0, a1, a2, a3, a4, a5, a6, a7⟩; go_simp
  refine tk 9 (.pointer (some ⟨b, o + 8, none⟩)) rfl ?_ hS0 ?_
  ·intro w' ⟨a0, a1, a2, a3, a4, a5, a6, a7⟩; go_simp
  refine tk 10 (.pointer (some ⟨b, o + 10, none⟩)) rfl ?_ hS0 ?_
  ·intro w' ⟨a0, a1, a2, a3, a4, a5, a6, a7⟩; go_simp
  refine tk 11 (.string s2) rfl ?_ hS0 ?_
  ·intro w' ⟨a0, a1, a2, a3, a4, a5, a6, a7⟩; go_simp
  refine tk 12 (.slice (some ⟨b, o, none⟩) 8 cap) rfl ?_ hS0 ?_
  ·intro w' ⟨a0, a1, a2, a3, a4, a5, a6, a7⟩; go_simp
  refine tk 13 (.pointer (some ⟨b, o + 12, none⟩)) rfl ?_ hS0 ?_
  ·intro w' ⟨a0, a1, a2, a3, a4, a5, a6, a7⟩; go_simp
  refine tk 14 (.pointer (some ⟨b, o + 13, none⟩)) rfl ?_ hS0 ?_
  ·intro w' ⟨a0, a1, a2, a3, a4, a5, a6, a7⟩; go_simp
  refine tk 15 (.int .i64 n3) rfl ?_ hS0 ?_
  ·intro w' ⟨a0, a1, a2, a3, a4, a5, a6, a7⟩; go_simp
  refine tk 16 (.slice (some ⟨b, o, none⟩) 8 cap) rfl ?_ hS0 ?_
  ·intro w' ⟨a0, a1, a2, a3, a4, a5, a6, a7⟩; go_simp
  refine tk 17 (.pointer (some ⟨b, o + 16, none⟩)) rfl ?_ hS0 ?_
  ·intro w' ⟨a0, a1, a2, a3, a4, a5, a6, a7⟩; go_simp
  refine tk 18 (.pointer (some ⟨b, o + 17, none⟩)) rfl ?_ hS0 ?_
  ·intro w' ⟨a0, a1, a2, a3, a4, a5, a6, a7⟩; go_simp
  refine tk 19 (.int .i64 n4) rfl ?_ hS0 ?_
  ·intro w' ⟨a0, a1, a2, a3, a4, a5, a6, a7⟩; go_simp
  refine tk 20 (.slice (some ⟨b, o, none⟩) 8 cap) rfl ?_ hS0 ?_
  ·intro w' ⟨a0, a1, a2, a3, a4, a5, a6, a7⟩; go_simp
  refine tk 21 (.pointer (some ⟨b, o + 20, none⟩)) rfl ?_ hS0 ?_
  ·intro w' ⟨a0, a1, a2, a3, a4, a5, a6, a7⟩; go_simp
  refine tk 22 (.pointer (some ⟨b, o + 22, none⟩)) rfl ?_ hS0 ?_
  ·intro w' ⟨a0, a1, a2, a3, a4, a5, a6, a7⟩; go_simp
  refine tk 23 (.string s5) rfl ?_ hS0 ?_
  ·intro w' ⟨a0, a1, a2, a3, a4, a5, a6, a7⟩; go_simp
  refine tk 24 (.slice (some ⟨b, o, none⟩) 8 cap) rfl ?_ hS0 ?_
  ·intro w' ⟨a0, a1, a2, a3, a4, a5, a6, a7⟩; go_simp
  refine tk 25 (.pointer (some ⟨b, o + 24, none⟩)) rfl ?_ hS0 ?_
  ·intro w' ⟨a0, a1, a2, a3, a4, a5, a6, a7⟩; go_simp
  refine tk 26 (.pointer (some ⟨b, o + 25, none⟩)) rfl ?_ hS0 ?_
  ·intro w' ⟨a0, a1, a2, a3, a4, a5, a6, a7⟩; go_simp
  refine tk 27 (.int .i64 n6) rfl ?_ hS0 ?_
  ·intro w' ⟨a0, a1, a2, a3, a4, a5, a6, a7⟩; go_simp
  refine tk 28 (.slice (some ⟨b, o, none⟩) 8 cap) rfl ?_ hS0 ?_
  ·intro w' ⟨a0, a1, a2, a3, a4, a5, a6, a7⟩; go_simp
  refine tk 29 (.pointer (some ⟨b, o + 28, none⟩)) rfl ?_ hS0 ?_
  ·intro w' ⟨a0, a1, a2, a3, a4, a5, a6, a7⟩; go_simp
  refine tk 30 (.pointer (some ⟨b, o + 29, none⟩)) rfl ?_ hS0 ?_
  ·intro w' ⟨a0, a1, a2, a3, a4, a5, a6, a7⟩; go_simp
  refine tk 31 (.int .i64 n7) rfl ?_ hS0 ?_
  ·intro w' ⟨a0, a1, a2, a3, a4, a5, a6, a7⟩; go_simp
  refine tk 32 (.agg #[.int .i64 n0, .string s1, .string s2, .int .i64 n3, .int .i64 n4, .string s5, .int .i64 n6, .int .i64 n7]) rfl ?_ hS0 ?_
  ·intro w' ⟨a0, a1, a2, a3, a4, a5, a6, a7⟩; go_simp
  simp only [List.getElem_toArray, List.getElem_cons_succ, List.getElem_cons_zero, Act.put, List.setIfInBounds_toArray, List.set_cons_zero, List.set_cons_succ]
  refine wpAnyH_ready (rs := [33]) (by kernel_rfl) (by simp) ?_
  refine AllReadyH.cons rfl (fun K hK => ?_) AllReadyH.nil
  simp only [List.getElem_toArray, List.getElem_cons_succ, List.getElem_cons_zero]
  go_simp
  have HX1 := Lib.hid ((HB.out.alloc HB.out.size (.cells #[.int .i64 0, .string ⟨#[]⟩, .string ⟨#[]⟩, .int .i64 0, .int .i64 0, .string ⟨#[]⟩, .int .i64 0, .int .i64 0] 35)).drew)
  refine hK.out _ _ (HS.out _ HX1.out) (fun _ => ?_)
  clear hK hS0
  refine wpAnyH_done (by kernel_rfl) ?_ _
  rw [Exit.then]
  rw [if_pos (by rfl)]
  go_simp
  have hr0 := hrz _ rfl
  have hd : DeC ((w0.alloc (.cells #[.int .i64 n0, .string s1, .string s2, .int .i64 n3, .int .i64 n4, .string s5, .int .i64 n6, .int .i64 n7] 35)).drew) w0.heap.size ⟨n0, s1, s2, n3, n4, s5, n6, n7⟩ := (DeC.new w0 ⟨n0, s1, s2, n3, n4, s5, n6, n7⟩ 35).below ((Below.refl _ _).drew)
  have hb9 : Below w0.heap.size w0 ((w0.alloc (.cells #[.int .i64 n0, .string s1, .string s2, .int .i64 n3, .int .i64 n4, .string s5, .int .i64 n6, .int .i64 n7] 35)).drew) := ((Below.refl _ _).alloc (Nat.le_refl _) _).drew
  have hb8 := HB.out.trans (hb9.mono HB.out.size)
  have hz9 : ∀ j, ((w0.alloc (.cells #[.int .i64 n0, .string s1, .string s2, .int .i64 n3, .int .i64 n4, .string s5, .int .i64 n6, .int .i64 n7] 35)).drew).cell? ⟨w.heap.size, j, none⟩ = w0.cell? ⟨w.heap.size, j, none⟩ := fun j => hb9.cell (by show w.heap.size < w0.heap.size; omega)
  obtain ⟨z0, z1, z2, z3⟩ := hzz _ rfl
  have hrd := hr0.1.below hb9
  have hrw := hr0.2.below (by omega) hb9
  have hz0 := (hz9 0).trans z0
  have hz1 := (hz9 1).trans z1
  have hz2 := (hz9 2).trans z2
  have hz3 := (hz9 3).trans z3
  generalize (w0.alloc (.cells #[.int .i64 n0, .string s1, .string s2, .int .i64 n3, .int .i64 n4, .string s5, .int .i64 n6, .int .i64 n7] 35)).drew = W1 at *
  clear hz9 hzz hrz hr0 z0 z1 z2 z3 HX1 HS
  have HW1 := Lib.hid hb8
  have HG1 : Hid (RepG W1 (fun _ => True) (some ⟨b, o, none⟩) l) := Lib.hid ((show RepG w (fun _ => True) (some ⟨b, o, none⟩) l from HRA.out).to (fun j _ hj => ⟨trivial, hb8.block j hj⟩))
  have HD1 := Lib.hid hd
  have hss : ∀ W, Below W1.heap.size W1 W → W.cell? ⟨w.heap.size, 0, none⟩ = some (.int .i64 k) ∧ W.cell? ⟨w.heap.size, 1, none⟩ = some (.int .i64 n) ∧ W.cell? ⟨w.heap.size, 2, none⟩ = some (.string s) ∧ W.cell? ⟨w.heap.size, 3, none⟩ = some (.slice (some ⟨b, o, none⟩) 8 cap) ∧ DeC W w0.heap.size ⟨n0, s1, s2, n3, n4, s5, n6, n7⟩ := fun W hW =>
   have hl : w.heap.size < W1.heap.size := World.block_lt_of_cell? W1 _ hz0
   ⟨by rw [hW.cell hl]; exact hz0, by rw [hW.cell hl]; exact hz1, by rw [hW.cell hl]; exact hz2, by rw [hW.cell hl]; exact hz3, hd.below hW⟩
  have HRD : Hid (∀ W, Below W1.heap.size W1 W → DeC W (w.heap.size + 1) De.zero ∧ DeW W (w.heap.size + 1)) := Lib.hid (fun W hW => ⟨hrd.below hW, hrw.below (World.block_lt_of_cell? W1 _ hrd.1) hW⟩)
  have HSS := Lib.hid hss
  clear hb8 hb9 hss hd hrd hrw hz0 hz1 hz2 hz3
  go_wp2_with fail
  have hS0 := HSS.out _ (Below.refl W1.heap.size W1).drew
  refine wp_region_last (S := fun W => W.cell? ⟨w.heap.size, 0, none⟩ = some (.int .i64 k) ∧ W.cell? ⟨w.heap.size, 1, none⟩ = some (.int .i64 n) ∧ W.cell? ⟨w.heap.size, 2, none⟩ = some (.string s) ∧ W.cell? ⟨w.heap.size, 3, none⟩ = some (.slice (some ⟨b, o, none⟩) 8 cap) ∧ DeC W w0.heap.size ⟨n0, s1, s2, n3, n4, s5, n6, n7⟩) (by kernel_rfl) (ops := List.toArray [_, _, _, _]) (o := _) rfl (by kernel_rfl) ?_
  refine tk 0 (.agg #[.int .i64 k, .int .i64 n, .string s, .slice (some ⟨b, o, none⟩) 8 cap]) rfl ?_ hS0 ?_
  ·intro w' ⟨e0, e1, e2, e3, _⟩; go_simp
  refine tk 1 (.agg #[.int .i64 n0, .string s1, .string s2, .int .i64 n3, .int .i64 n4, .string s5, .int .i64 n6, .int .i64 n7]) rfl ?_ hS0 ?_
  ·intro w' ⟨_, _, _, _, d0, d1, d2, d3, d4, d5, d6, d7⟩; dsimp only at d0 d1 d2 d3 d4 d5 d6 d7; go_simp
  simp only [List.getElem_toArray, List.getElem_cons_succ, List.getElem_cons_zero, Act.put, List.setIfInBounds_toArray, List.set_cons_zero, List.set_cons_succ]
  refine wpAnyH_ready (rs := [2]) (by kernel_rfl) (by simp) ?_
  refine AllReadyH.cons rfl (fun K hK => ?_) AllReadyH.nil
  simp only [List.getElem_toArray, List.getElem_cons_succ, List.getElem_cons_zero]
  go_simp
  have HWd := Lib.hid (HW1.out.trans ((Below.refl W1.heap.size W1).drew.mono HW1.out.size))
  refine (HVL.out _ (HTE.out.1.below HWd.out) (HTE.out.2.below HWd.out)).mono ?_
  rintro _ W2 ⟨hb2, hh⟩
  have HX2 := Lib.hid ((Below.refl W1.heap.size W1).drew.trans hb2)
  have HG2 : Hid (RepG W2 (fun _ => True) (some ⟨b, o, none⟩) l) := Lib.hid (HG1.out.to (fun j _ hj => ⟨trivial, HX2.out.block j hj⟩))
  have HW2 := Lib.hid (HW1.out.trans (HX2.out.mono HW1.out.size))
  clear hb2 HVL
  rcases hh with ⟨rfl, rfl⟩ | ⟨rfl, ad2, cap2, rfl, hg⟩
  ·refine hK.out _ _ (HSS.out _ HX2.out) (fun _ => ?_)
   clear hK
   refine wpAnyH_ready (rs := [3]) (by kernel_rfl) (by simp) ?_
   refine AllReadyH.cons rfl (fun K hK => ?_) AllReadyH.nil
   simp only [List.getElem_toArray, List.getElem_cons_succ, List.getElem_cons_zero]
   go_simp
   refine (HE0.out _ HG2.out).mono ?_
   rintro _ W3 ⟨⟨r, rfl, hr⟩, hb3⟩
   obtain ⟨rfl, ha⟩ := HA0.out rfl r hr
   have HA := Lib.hid ha
   have HX3 := Lib.hid (HX2.out.trans (hb3.mono HX2.out.size))
   clear hb3 ha hr
   refine hK.out _ _ (HSS.out _ HX3.out) (fun _ => ?_)
   clear hK
   refine wpAnyH_done (by kernel_rfl) ?_ _
   rw [Exit.then]
   rw [if_pos (by rfl)]
   go_simp
   obtain ⟨x0, x1, x2, x3, x4, x5, x6, x7⟩ := (HRD.out _ HX3.out).1
   obtain ⟨y0, y1, y2, y3, y4, y5, y6, y7⟩ := (HRD.out _ HX3.out).2
   dsimp only [De.zero] at x0 x1 x2 x3 x4 x5 x6 x7
   go_wp2_with fail
   have hC := putD_de (HRD.out _ HX3.out).1 (HRD.out _ HX3.out).2 De.zero
   have hB := putD_below (HW1.out.trans (HX3.out.mono HW1.out.size)) (show w.heap.size ≤ w.heap.size + 1 by omega) De.zero
   unfold De.zero at hC hB
   dsimp only at hC hB
   generalize (((((((W3.setCell ⟨w.heap.size + 1, 0, none⟩ (.int .i64 0)).setCell ⟨w.heap.size + 1, 1, none⟩ (.string ⟨#[]⟩)).setCell ⟨w.heap.size + 1, 2, none⟩ (.string ⟨#[]⟩)).setCell ⟨w.heap.size + 1, 3, none⟩ (.int .i64 0)).setCell ⟨w.heap.size + 1, 4, none⟩ (.int .i64 0)).setCell ⟨w.heap.size + 1, 5, none⟩ (.string ⟨#[]⟩)).setCell ⟨w.heap.size + 1, 6, none⟩ (.int .i64 0)).setCell ⟨w.heap.size + 1, 7, none⟩ (.int .i64 0) = W4 at *
   obtain ⟨t0, t1, t2, t3, t4, t5, t6, t7⟩ := hC
   dsimp only at t0 t1 t2 t3 t4 t5 t6 t7
   exact bodyPost_ret (v := .tuple #[.agg #[.int .i64 0, .string ⟨#[]⟩, .string ⟨#[]⟩, .int .i64 0, .int .i64 0, .string ⟨#[]⟩, .int .i64 0, .int .i64 0], .bool false]) (by simp [results, Tryz.results48, go_sem, t0, t1, t2, t3, t4, t5, t6, t7]) rfl ⟨HA.out, hB⟩
  ·have HGV : Hid (RepG W2 (fun _ => True) ad2 (De.parts ⟨n0, s1, s2, n3, n4, s5, n6, n7⟩)) := Lib.hid (RepG.to hg (fun _ _ _ => ⟨trivial, rfl⟩))
   clear hg
   refine hK.out _ _ (HSS.out _ HX2.out) (fun _ => ?_)
   clear hK
   refine wpAnyH_ready (rs := [3]) (by kernel_rfl) (by simp) ?_
   refine AllReadyH.cons rfl (fun K hK => ?_) AllReadyH.nil
   simp only [List.getElem_toArray, List.getElem_cons_succ, List.getElem_cons_zero]
   go_simp
   refine (HE1.out _ ad2 cap2 _ HG2.out HGV.out).mono ?_
   rintro _ W3 ⟨⟨r, rfl, hr⟩, hb3⟩
   have HA := Lib.hid (HA1.out rfl r hr)
   have HX3 := Lib.hid (HX2.out.trans (hb3.mono HX2.out.size))
   have HDD := (HSS.out _ HX3.out).2.2.2.2
   obtain ⟨d0, d1, d2, d3, d4, d5, d6, d7⟩ := HDD
   dsimp only at d0 d1 d2 d3 d4 d5 d6 d7
   clear hb3 hr
   refine hK.out _ _ (HSS.out _ HX3.out) (fun _ => ?_)
   clear hK
   refine wpAnyH_done (by kernel_rfl) ?_ _
   rw [Exit.then]
   rw [if_pos (by rfl)]
   cases r with
   | false =>
    go_simp
    obtain ⟨x0, x1, x2, x3, x4, x5, x6, x7⟩ := (HRD.out _ HX3.out).1
    obtain ⟨y0, y1, y2, y3, y4, y5, y6, y7⟩ := (HRD.out _ HX3.out).2
    dsimp only [De.zero] at x0 x1 x2 x3 x4 x5 x6 x7
    go_wp2_with fail
    have hC := putD_de (HRD.out _ HX3.out).1 (HRD.out _ HX3.out).2 De.zero
    have hB := putD_below (HW1.out.trans (HX3.out.mono HW1.out.size)) (show w.heap.size ≤ w.heap.size + 1 by omega) De.zero
    unfold De.zero at hC hB
    dsimp only at hC hB
    generalize (((((((W3.setCell ⟨w.heap.size + 1, 0, none⟩ (.int .i64 0)).setCell ⟨w.heap.size + 1, 1, none⟩ (.string ⟨#[]⟩)).setCell ⟨w.heap.size + 1, 2, none⟩ (.string ⟨#[]⟩)).setCell ⟨w.heap.size + 1, 3, none⟩ (.int .i64 0)).setCell ⟨w.heap.size + 1, 4, none⟩ (.int .i64 0)).setCell ⟨w.heap.size + 1, 5, none⟩ (.string ⟨#[]⟩)).setCell ⟨w.heap.size + 1, 6, none⟩ (.int .i64 0)).setCell ⟨w.heap.size + 1, 7, none⟩ (.int .i64 0) = W4 at *
    obtain ⟨t0, t1, t2, t3, t4, t5, t6, t7⟩ := hC
    dsimp only at t0 t1 t2 t3 t4 t5 t6 t7
    exact bodyPost_ret (v := .tuple #[.agg #[.int .i64 0, .string ⟨#[]⟩, .string ⟨#[]⟩, .int .i64 0, .int .i64 0, .string ⟨#[]⟩, .int .i64 0, .int .i64 0], .bool false]) (by simp [results, Tryz.results48, go_sem, t0, t1, t2, t3, t4, t5, t6, t7]) rfl ⟨HA.out, hB⟩
   | true =>
    go_simp
    obtain ⟨x0, x1, x2, x3, x4, x5, x6, x7⟩ := (HRD.out _ HX3.out).1
    obtain ⟨y0, y1, y2, y3, y4, y5, y6, y7⟩ := (HRD.out _ HX3.out).2
    dsimp only [De.zero] at x0 x1 x2 x3 x4 x5 x6 x7
    go_wp2_with fail
    have hC := putD_de (HRD.out _ HX3.out).1 (HRD.out _ HX3.out).2 ⟨n0, s1, s2, n3, n4, s5, n6, n7⟩
    have hB := putD_below (HW1.out.trans (HX3.out.mono HW1.out.size)) (show w.heap.size ≤ w.heap.size + 1 by omega) ⟨n0, s1, s2, n3, n4, s5, n6, n7⟩
    skip
    dsimp only at hC hB
    generalize (((((((W3.setCell ⟨w.heap.size + 1, 0, none⟩ (.int .i64 n0)).setCell ⟨w.heap.size + 1, 1, none⟩ (.string s1)).setCell ⟨w.heap.size + 1, 2, none⟩ (.string s2)).setCell ⟨w.heap.size + 1, 3, none⟩ (.int .i64 n3)).setCell ⟨w.heap.size + 1, 4, none⟩ (.int .i64 n4)).setCell ⟨w.heap.size + 1, 5, none⟩ (.string s5)).setCell ⟨w.heap.size + 1, 6, none⟩ (.int .i64 n6)).setCell ⟨w.heap.size + 1, 7, none⟩ (.int .i64 n7) = W4 at *
    obtain ⟨t0, t1, t2, t3, t4, t5, t6, t7⟩ := hC
    dsimp only at t0 t1 t2 t3 t4 t5 t6 t7
    exact bodyPost_ret (v := .tuple #[.agg #[.int .i64 n0, .string s1, .string s2, .int .i64 n3, .int .i64 n4, .string s5, .int .i64 n6, .int .i64 n7], .bool true]) (by simp [results, Tryz.results48, go_sem, t0, t1, t2, t3, t4, t5, t6, t7]) rfl ⟨HA.out, hB⟩
end Go.Proofs.YtlpgphiccjkenaaGreatDoor
