/-
 Contracts of the program, and what they rest on.
-/
import Derived.Test.YtoealjcjpjapkaaGreatDoorTk
import Derived.Test.YtoealjcjpjapkaaGreatDoorM07
import Derived.Test.YtoealjcjpjapkaaGreatDoorM04
import Derived.Lib.SlFresh
import Derived.Deep.AppendLies
import Derived.Test.YtoealjcjpjapkaaGreatDoorRA
import Derived.Test.YtoealjcjpjapkaaGreatDoorRefP
set_option maxRecDepth 100000
set_option maxHeartbeats 16000000
namespace Go.Proofs.YtoealjcjpjapkaaGreatDoor
open Go.RowKit
def F.fit : F → Prop
 | .nil => True
 | .cons _ _ _ l r => (l.len * 56 ≤ 140737488355328 ∧ l.fit) ∧ r.fit
def CelV (w : World) (b : Nat) (k n : Int) (s : ByteArray) (ad : Option Addr) (len cap : Nat) : Prop :=
 w.cell? ⟨b, 0, none⟩ = some (.int .i64 k) ∧ w.cell? ⟨b, 1, none⟩ = some (.int .i64 n) ∧ w.cell? ⟨b, 2, none⟩ = some (.string s) ∧ w.cell? ⟨b, 3, none⟩ = some (.slice ad len cap)
def FrzV (w : World) (b : Nat) : Prop := w.frozen? ⟨b, 0, none⟩ = false ∧ w.frozen? ⟨b, 1, none⟩ = false ∧ w.frozen? ⟨b, 2, none⟩ = false ∧ w.frozen? ⟨b, 3, none⟩ = false
theorem CelV.kept {w w' : World} {b : Nat} {k n : Int} {s : ByteArray} {ad : Option Addr} {len cap : Nat} (h : CelV w b k n s ad len cap) (e : w'.heap[b]? = w.heap[b]?) : CelV w' b k n s ad len cap := by
 obtain ⟨h0, h1, h2, h3⟩ := h
 exact ⟨by rw [cell_congr e]; exact h0, by rw [cell_congr e]; exact h1, by rw [cell_congr e]; exact h2, by rw [cell_congr e]; exact h3⟩
theorem FrzV.kept {w w' : World} {b : Nat} (h : FrzV w b) (e : w'.heap[b]? = w.heap[b]?) : FrzV w' b := by
 have f (o : Nat) : w'.frozen? ⟨b, o, none⟩ = w.frozen? ⟨b, o, none⟩ := World.frozen?_of_block (a := ⟨b, o, none⟩) e
 obtain ⟨h0, h1, h2, h3⟩ := h
 exact ⟨by rw [f]; exact h0, by rw [f]; exact h1, by rw [f]; exact h2, by rw [f]; exact h3⟩
def OfQ (k n : Int) (s : ByteArray) (l : F) : Prop := ∀ (ad : Option Addr) (cap : Nat) (w : World), l.len * 56 ≤ 140737488355328 → l.fit → RepS w ad l →
 Calls Tryz.prog 29 #[.agg #[.int .i64 k, .int .i64 n, .string s, .slice ad l.len cap]] w fun e w' => Below w.heap.size w w' ∧ ∃ ad' cap', e = .returned (.agg #[.int .i64 k, .int .i64 n, .string s, .slice ad' l.len cap']) ∧ RepG w' (fun b => w.heap.size ≤ b) ad' l
theorem infoOf : (Tryz.prog.info? 45).map (fun i => (i.zero, i.size, i.bytes)) = some (some (.agg #[.int .i64 0, .int .i64 0, .string ⟨#[]⟩, .slice none 0 0]), 4, 56) := by kernel_rfl
def OfQRel (w : World) (k n : Int) (s : ByteArray) (l : F) (ad : Option Addr) (cap : Nat) (iv : Value) (wr : World) : Prop :=
 ∃ (dn g : F) (la : Option Addr) (lc : Nat) (xs : List Value), iv = .int .i64 dn.len ∧ Hid (dn.app g = l) ∧ dn.len + g.len = l.len ∧ Hid (g.All OfQ ∧ g.fit) ∧ (g = .nil ∨ ∃ b o, ad = some ⟨b, o, none⟩ ∧ RepF w b (o + dn.len * 4) g) ∧
  CelV wr w.heap.size k n s ad l.len cap ∧ CelV wr (w.heap.size + 2) k n s la dn.len lc ∧ FrzV wr (w.heap.size + 2) ∧ CelV wr (w.heap.size + 1) 0 0 ⟨#[]⟩ none 0 0 ∧ FrzV wr (w.heap.size + 1) ∧
  Hid (wr.ownsRow (w.heap.size + 3) 45 4 (.slice la dn.len lc) dn.len xs ∧ RepX wr (fun b => w.heap.size + 3 ≤ b ∧ (Value.slice la dn.len lc).ownBlock ≠ some b) xs dn ∧ Below w.heap.size w wr ∧ w.heap.size + 3 ≤ wr.heap.size)
theorem of_q (k n : Int) (s : ByteArray) (l : F) (hl : l.All OfQ) : OfQ k n s l := by
 intro ad cap w hfit0 hfit hr
 have HL := Lib.hid (And.intro hl (And.intro hfit0 hfit))
 have HR := Lib.hid hr
 have hmax : l.len ≤ 2513169434916 := by omega
 clear hl hfit hr hfit0
 obtain ⟨i0, hi, hz0, hz1, hz2⟩ := info_parts infoOf
 go_enter Tryz.func29, Tryz.ntmps29
 go_wp2_with fail
 go_loopw [4] (fun iv wr => OfQRel w k n s l ad cap iv wr) (fun iv _ => l.len - (intOf iv).toNat)
 case atStart =>
  refine ⟨.nil, l, none, 0, [], rfl, Lib.hid rfl, by simp [F.len], Lib.hid ⟨HL.out.1, HL.out.2.2⟩, ?_, ?_, ?_, ?_, ?_, ?_, Lib.hid ⟨⟨rfl, .inl ⟨rfl, rfl⟩⟩, rfl, ?_, ?_⟩⟩
  ·rcases HR.out with h | ⟨b, o, e, h⟩
   ·exact .inl h
   ·exact .inr ⟨b, o, e, by simpa [F.len] using h⟩
  ·refine ⟨?_, ?_, ?_, ?_⟩ <;> go_simp
  ·show CelV _ _ k n s none 0 0
   refine ⟨?_, ?_, ?_, ?_⟩ <;> go_simp
  ·refine ⟨?_, ?_, ?_, ?_⟩ <;> go_simp
  ·refine ⟨?_, ?_, ?_, ?_⟩ <;> go_simp
  ·refine ⟨?_, ?_, ?_, ?_⟩ <;> go_simp
  ·exact (((Below.refl _ _).alloc (Nat.le_refl _) _).alloc (by simp) _).alloc (by simp; omega) _
  ·simp
 case round =>
  obtain ⟨dn, g, la, lc, xs, rfl, HAP, hil, HG, hG1, ⟨a0, a1, a2, a3⟩, ⟨v0, v1, v2, v3⟩, ⟨z0, z1, z2, z3⟩, ⟨r0, r1, r2, r3⟩, ⟨y0, y1, y2, y3⟩, HO⟩ := hrel
  cases g with
  | nil =>
   have hlt : ¬ (dn.len : Int) < (l.len : Int) := by simp only [F.len] at hil; omega
   have hd : dn = l := by have := HAP.out; rwa [F.app_nil] at this
   subst hd
   clear hG1
   go_wp2_with fail
   have hs0 := HO.out.2.2.2
   have hC : CelV ((((wr.setCell ⟨w.heap.size + 1, 0, none⟩ (.int .i64 k)).setCell ⟨w.heap.size + 1, 1, none⟩ (.int .i64 n)).setCell ⟨w.heap.size + 1, 2, none⟩ (.string s)).setCell ⟨w.heap.size + 1, 3, none⟩ (.slice la dn.len lc)) (w.heap.size + 1) k n s la dn.len lc := by
    refine ⟨?_, ?_, ?_, ?_⟩ <;> go_simp
   have hB4 : Below w.heap.size w ((((wr.setCell ⟨w.heap.size + 1, 0, none⟩ (.int .i64 k)).setCell ⟨w.heap.size + 1, 1, none⟩ (.int .i64 n)).setCell ⟨w.heap.size + 1, 2, none⟩ (.string s)).setCell ⟨w.heap.size + 1, 3, none⟩ (.slice la dn.len lc)) :=
    (((HO.out.2.2.1.setCell (by simp) _).setCell (by simp) _).setCell (by simp) _).setCell (by simp) _
   have hG : RepG wr (fun b => w.heap.size + 3 ≤ b) la dn := owns_repG (A' := fun b => w.heap.size + 3 ≤ b) HO.out.1 HO.out.2.1 (fun _ h => h.1) (fun _ h => h)
   have hG4 : RepG ((((wr.setCell ⟨w.heap.size + 1, 0, none⟩ (.int .i64 k)).setCell ⟨w.heap.size + 1, 1, none⟩ (.int .i64 n)).setCell ⟨w.heap.size + 1, 2, none⟩ (.string s)).setCell ⟨w.heap.size + 1, 3, none⟩ (.slice la dn.len lc)) (fun b => w.heap.size ≤ b) la dn := hG.to (fun b hb _ => ⟨by omega, by
    rw [heap_setCell_other _ _ _ _ (by simp; omega), heap_setCell_other _ _ _ _ (by simp; omega), heap_setCell_other _ _ _ _ (by simp; omega), heap_setCell_other _ _ _ _ (by simp; omega)]⟩)
   generalize (((wr.setCell ⟨w.heap.size + 1, 0, none⟩ (.int .i64 k)).setCell ⟨w.heap.size + 1, 1, none⟩ (.int .i64 n)).setCell ⟨w.heap.size + 1, 2, none⟩ (.string s)).setCell ⟨w.heap.size + 1, 3, none⟩ (.slice la dn.len lc) = W4 at *
   obtain ⟨t0, t1, t2, t3⟩ := hC
   refine bodyPost_ret (v := .agg #[.int .i64 k, .int .i64 n, .string s, .slice la dn.len lc]) (by simp [results, Tryz.results29, go_sem, t0, t1, t2, t3]) rfl ⟨hB4, la, ⟨lc, rfl⟩, hG4⟩
  | cons k' n' s' l' r' =>
   have hlt : (dn.len : Int) < (l.len : Int) := by simp only [F.len] at hil; omega
   have hlt' : dn.len < l.len := by omega
   obtain ⟨b, o, rfl, hGw⟩ := hG1.resolve_left (by simp)
   obtain ⟨g0, g1, g2, ⟨ad', cap', g3, g4⟩, _⟩ := RepF.kept HO.out.2.2.1 (Nat.le_refl _) _ _ _ hGw
   have g5 := hGw.2.2.2.2
   have hbw : b < w.heap.size := World.block_lt_of_cell? w _ hGw.1
   have q0 : wr.cell? ⟨b, o + dn.len * 4 + 0, none⟩ = some (.int .i64 k') := g0
   obtain ⟨⟨hq, hQr⟩, ⟨hf1, hf2⟩, hfr⟩ := HG.out
   have HQ := Lib.hid hq
   have HNX := Lib.hid (And.intro hQr (And.intro hfr g5))
   have HLEN := Lib.hid (show dn.len + 1 + r'.len = l.len by simp only [F.len] at hil; omega)
   have H4 := Lib.hid (And.intro (show RepS wr ad' l' from g4) (And.intro hf1 hf2))
   have hsz := HO.out.2.2.2
   have HCE : Hid (CelV wr w.heap.size k n s (some ⟨b, o, none⟩) l.len cap ∧ CelV wr (w.heap.size + 2) k n s la dn.len lc ∧ FrzV wr (w.heap.size + 2) ∧ CelV wr (w.heap.size + 1) 0 0 ⟨#[]⟩ none 0 0 ∧ FrzV wr (w.heap.size + 1)) := Lib.hid ⟨⟨a0, a1, a2, a3⟩, ⟨v0, v1, v2, v3⟩, ⟨z0, z1, z2, z3⟩, ⟨r0, r1, r2, r3⟩, ⟨y0, y1, y2, y3⟩⟩
   have hsz1 : w.heap.size < wr.heap.size := by omega
   have hsz2 : w.heap.size + 2 < wr.heap.size := by omega
   have HSS : Hid (∀ W, Below wr.heap.size wr W → W.cell? ⟨w.heap.size + 1 + 1, 3, none⟩ = some (.slice la dn.len lc) ∧ W.cell? ⟨w.heap.size, 3, none⟩ = some (.slice (some ⟨b, o, none⟩) l.len cap) ∧ W.cell? ⟨b, o + dn.len * 4, none⟩ = some (.int .i64 k') ∧ W.cell? ⟨b, o + dn.len * 4 + 1, none⟩ = some (.int .i64 n') ∧ W.cell? ⟨b, o + dn.len * 4 + 2, none⟩ = some (.string s') ∧ W.cell? ⟨b, o + dn.len * 4 + 3, none⟩ = some (.slice ad' l'.len cap')) := Lib.hid (fun W hW => ⟨cell_kept hW (Nat.le_refl _) v3, cell_kept hW (Nat.le_refl _) a3, cell_kept hW (Nat.le_refl _) g0, cell_kept hW (Nat.le_refl _) g1, cell_kept hW (Nat.le_refl _) g2, cell_kept hW (Nat.le_refl _) g3⟩)
   clear hGw hq hQr hfr g5 g4 hf1 hf2 HG hil hG1 a0 a1 a2 v0 v1 v2 z0 z1 z2 z3 r0 r1 r2 r3 y0 y1 y2 y3
   go_wp2_with fail
   have hS0 := HSS.out _ (Below.refl wr.heap.size wr).drew
   have HGC := Lib.hid (And.intro v3 (And.intro a3 (And.intro g0 (And.intro g1 (And.intro g2 g3)))))
   clear g0 g1 g2 g3 q0 a3 v3
   refine wp_region_last (S := fun W => W.cell? ⟨w.heap.size + 1 + 1, 3, none⟩ = some (.slice la dn.len lc) ∧ W.cell? ⟨w.heap.size, 3, none⟩ = some (.slice (some ⟨b, o, none⟩) l.len cap) ∧ W.cell? ⟨b, o + dn.len * 4, none⟩ = some (.int .i64 k') ∧ W.cell? ⟨b, o + dn.len * 4 + 1, none⟩ = some (.int .i64 n') ∧ W.cell? ⟨b, o + dn.len * 4 + 2, none⟩ = some (.string s') ∧ W.cell? ⟨b, o + dn.len * 4 + 3, none⟩ = some (.slice ad' l'.len cap')) (by kernel_rfl) (ops := List.toArray [_, _, _, _, _, _, _, _, _, _, _]) (o := _) rfl (by kernel_rfl) ?_
   refine tk 0 (.pointer (some ⟨w.heap.size + 1 + 1, 3, none⟩)) rfl ?_ hS0 ?_
   ·intro w' ⟨s0, s1, s2, s3, s4, s5⟩; go_simp
   refine tk 1 (.slice la dn.len lc) rfl ?_ hS0 ?_
   ·intro w' ⟨s0, s1, s2, s3, s4, s5⟩; go_simp
   refine tk 2 (.pointer (some ⟨w.heap.size, 3, none⟩)) rfl ?_ hS0 ?_
   ·intro w' ⟨s0, s1, s2, s3, s4, s5⟩; go_simp
   refine tk 3 (.slice (some ⟨b, o, none⟩) l.len cap) rfl ?_ hS0 ?_
   ·intro w' ⟨s0, s1, s2, s3, s4, s5⟩; go_simp
   refine tk 4 (.int .i64 (dn.len : Nat)) rfl ?_ hS0 ?_
   ·intro w' ⟨s0, s1, s2, s3, s4, s5⟩; go_simp
   refine tk 5 (.pointer (some ⟨b, o + dn.len * 4, none⟩)) rfl ?_ hS0 ?_
   ·intro w' ⟨s0, s1, s2, s3, s4, s5⟩; go_simp
   refine tk 6 (.agg #[.int .i64 k', .int .i64 n', .string s', .slice ad' l'.len cap']) rfl ?_ hS0 ?_
   ·intro w' ⟨s0, s1, s2, s3, s4, s5⟩; have s2' : w'.cell? ⟨b, o + dn.len * 4 + 0, none⟩ = some (.int .i64 k') := s2; go_simp
   simp only [List.getElem_toArray, List.getElem_cons_succ, List.getElem_cons_zero, Act.put, List.setIfInBounds_toArray, List.set_cons_zero, List.set_cons_succ]
   refine wpAnyH_ready (rs := [7]) (by kernel_rfl) (by simp) ?_
   refine AllReadyH.cons rfl (fun K hK => ?_) AllReadyH.nil
   simp only [List.getElem_toArray, List.getElem_cons_succ, List.getElem_cons_zero]
   go_simp
   have CB := HQ.out ad' cap' wr.drew H4.out.2.1 H4.out.2.2 (H4.out.1.below (Below.refl wr.heap.size wr).drew)
   refine CB.mono ?_
   rintro _ w2 ⟨hb2, ad2, cap2, rfl, hg2⟩
   have HG2 := Lib.hid (And.intro hb2 hg2)
   have hbr : Below wr.heap.size wr w2 := (Below.refl wr.heap.size wr).drew.trans hb2
   have HBR := Lib.hid hbr
   clear hb2 hg2 hbr
   refine hK.out _ _ (HSS.out _ HBR.out) (fun _ => ?_)
   clear hK hS0
   refine wpAnyH_ready (rs := [8]) (by kernel_rfl) (by simp) ?_
   refine AllReadyH.cons rfl (fun K hK => ?_) AllReadyH.nil
   simp only [List.getElem_toArray, List.getElem_cons_succ, List.getElem_cons_zero]
   go_simp
   have HBA : Hid (Below wr.heap.size wr (w2.alloc (.cells #[.int .i64 k', .int .i64 n', .string s', .slice ad2 l'.len cap2] 45))) := Lib.hid (HBR.out.alloc HBR.out.size _)
   refine hK.out _ _ (HSS.out _ HBA.out) (fun _ => ?_)
   clear hK
   refine wpAnyH_ready (rs := [9]) (by kernel_rfl) (by simp) ?_
   refine AllReadyH.cons rfl (fun K hK => ?_) AllReadyH.nil
   simp only [List.getElem_toArray, List.getElem_cons_succ, List.getElem_cons_zero]
   rw [if_pos (by rfl)]
   refine op_append_at (.tmp 20) (.tmp 27) 43 rfl (w.heap.size + 3) 45 i0 _ 4 56 Tryz.underlying43 hi hz0 hz1 hz2 rfl (by decide) (.slice la dn.len lc) dn.len xs rfl ?_ ⟨w2.heap.size, 0, none⟩ 1 1 [.int .i64 k', .int .i64 n', .string s', .slice ad2 l'.len cap2] rfl rfl ?_ ?_ ?_ ?_ ?_ ?_
   ·exact owns_below HO.out.1 HBA.out
   ·exact World.news_of_block (cs := #[.int .i64 k', .int .i64 n', .string s', .slice ad2 l'.len cap2]) (heap_alloc_new w2 _)
   ·intro u hu
    simp at hu
    rcases hu with rfl | rfl | rfl | rfl <;> rfl
   ·unfold maxLen; omega
   ·omega
   ·exact Nat.le_trans HO.out.2.2.2 HBA.out.size
   intro v' w3 hown3 hgrow3 hloc3
   obtain ⟨va, vc, rfl⟩ := owns_shape4 hown3
   simp only [Act.put, List.setIfInBounds_toArray, List.set_cons_zero, List.set_cons_succ]
   have hk3 : ∀ j, j < wr.heap.size → (Value.slice la dn.len lc).ownBlock ≠ some j → w3.heap[j]? = wr.heap[j]? := fun j hj hn => by
    rw [hgrow3.block j (by have := HBA.out.size; omega) (fun e => hn (by first | exact e | exact e.symm))]
    exact HBA.out.block j hj
   have hnb : ∀ j, j < w.heap.size + 3 → (Value.slice la dn.len lc).ownBlock ≠ some j := fun j hj e => by
    have := owns_base HO.out.1 j e
    omega
   have HKB : Hid (∀ j, j < w.heap.size + 3 → w3.heap[j]? = wr.heap[j]?) := Lib.hid (fun j hj => hk3 j (by omega) (hnb j hj))
   have HK3 := Lib.hid (And.intro hk3 (And.intro hown3 (And.intro hgrow3 hloc3)))
   clear hk3 hnb hown3 hgrow3 hloc3
   have hS3 : w3.cell? ⟨w.heap.size + 1 + 1, 3, none⟩ = some (.slice la dn.len lc) ∧ w3.cell? ⟨w.heap.size, 3, none⟩ = some (.slice (some ⟨b, o, none⟩) l.len cap) ∧ w3.cell? ⟨b, o + dn.len * 4, none⟩ = some (.int .i64 k') ∧ w3.cell? ⟨b, o + dn.len * 4 + 1, none⟩ = some (.int .i64 n') ∧ w3.cell? ⟨b, o + dn.len * 4 + 2, none⟩ = some (.string s') ∧ w3.cell? ⟨b, o + dn.len * 4 + 3, none⟩ = some (.slice ad' l'.len cap') :=
    ⟨by rw [cell_congr (HKB.out _ (by omega))]; exact HGC.out.1, by rw [cell_congr (HKB.out _ (by omega))]; exact HGC.out.2.1, by rw [cell_congr (HKB.out _ (by omega))]; exact HGC.out.2.2.1, by rw [cell_congr (HKB.out _ (by omega))]; exact HGC.out.2.2.2.1, by rw [cell_congr (HKB.out _ (by omega))]; exact HGC.out.2.2.2.2.1, by rw [cell_congr (HKB.out _ (by omega))]; exact HGC.out.2.2.2.2.2⟩
   have HFW : w3.frozen? ⟨w.heap.size + 1 + 1, 3, none⟩ = false := (HCE.out.2.2.1.kept (HKB.out _ (by omega))).2.2.2
   have HB3 : Hid (Below w.heap.size w w3) := Lib.hid ((HO.out.2.2.1.trans (HBA.out.mono HO.out.2.2.1.size)).grown HK3.out.2.2.1 (Nat.le_trans HO.out.2.2.1.size HBA.out.size) (fun j hj => Nat.le_trans (by omega) (owns_base HO.out.1 j hj)))
   refine hK.out _ _ hS3 (fun _ => ?_)
   clear hK
   have v3 := hS3.1
   clear hS3
   refine wpAnyH_ready (rs := [10]) (by kernel_rfl) (by simp) ?_
   refine AllReadyH.cons rfl (fun K hK => ?_) AllReadyH.nil
   simp only [List.getElem_toArray, List.getElem_cons_succ, List.getElem_cons_zero]
   go_simp
   refine hK.out _ _ ⟨v3, by rw [cell_congr (HKB.out _ (by omega))]; exact HGC.out.2.1, by rw [cell_congr (HKB.out _ (by omega))]; exact HGC.out.2.2.1, by rw [cell_congr (HKB.out _ (by omega))]; exact HGC.out.2.2.2.1, by rw [cell_congr (HKB.out _ (by omega))]; exact HGC.out.2.2.2.2.1, by rw [cell_congr (HKB.out _ (by omega))]; exact HGC.out.2.2.2.2.2⟩ (fun _ => ?_)
   clear hK
   refine wpAnyH_done (by kernel_rfl) ?_ _
   rw [Exit.then]
   rw [if_pos (by rfl)]
   go_simp
   go_wp2_with fail
   go_roundw
   case rel =>
    have e1 : (dn.app (.cons k' n' s' l' .nil)).len = dn.len + 1 := by rw [F.app_len]; rfl
    have hot : ∀ j, j ≠ w.heap.size + 2 → (w3.setCell ⟨w.heap.size + 1 + 1, 3, none⟩ (.slice va (dn.len + 1) vc)).heap[j]? = w3.heap[j]? := fun j hj => heap_setCell_other _ _ _ _ (fun e => hj (by first | exact e | exact e.symm))
    have hne : ∀ j, w.heap.size + 3 ≤ j → j < w2.heap.size → (Value.slice la dn.len lc).ownBlock ≠ some j → (Value.slice va (dn.len + 1) vc).ownBlock ≠ some j ∧ (w3.setCell ⟨w.heap.size + 1 + 1, 3, none⟩ (.slice va (dn.len + 1) vc)).heap[j]? = w2.heap[j]? := by
     intro j hj hlt hn
     refine ⟨?_, ?_⟩
     ·rcases HK3.out.2.2.2 with h | h
      ·rw [h]; exact hn
      ·rw [h]
       intro e
       have := Option.some.inj e
       simp at this
       omega
     ·rw [hot j (by omega), HK3.out.2.2.1.block j (by simp; omega) (fun e => hn (by first | exact e | exact e.symm))]
      exact heap_alloc_old _ _ hlt
    have hsw := HBR.out.size
    refine ⟨dn.app (.cons k' n' s' l' .nil), r', va, vc, xs ++ [.int .i64 k', .int .i64 n', .string s', .slice ad2 l'.len cap2], congrArg (Value.int .i64) (by rw [e1]; rfl), Lib.hid ?_, by rw [e1]; exact HLEN.out, Lib.hid ⟨HNX.out.1, HNX.out.2.1⟩, .inr ⟨b, o, rfl, ?_⟩, HCE.out.1.kept ?_, ?_, ?_, HCE.out.2.2.2.1.kept ?_, HCE.out.2.2.2.2.kept ?_, Lib.hid ⟨?_, ?_, ?_, ?_⟩⟩
    ·rw [F.app_assoc]; exact HAP.out
    ·rw [e1, show o + (dn.len + 1) * 4 = o + dn.len * 4 + 4 by omega]; exact HNX.out.2.2
    ·rw [hot _ (by omega)]; exact HKB.out _ (by omega)
    ·rw [e1]
     have c := HCE.out.2.1.kept (HKB.out (w.heap.size + 2) (by omega))
     obtain ⟨t0, t1, t2, t3⟩ := c
     refine ⟨?_, ?_, ?_, ?_⟩ <;> go_simp
    ·have c := HCE.out.2.2.1.kept (HKB.out (w.heap.size + 2) (by omega))
     obtain ⟨t0, t1, t2, t3⟩ := c
     refine ⟨?_, ?_, ?_, ?_⟩ <;> go_simp
    ·rw [hot _ (by omega)]; exact HKB.out _ (by omega)
    ·rw [hot _ (by omega)]; exact HKB.out _ (by omega)
    ·rw [e1]; exact ownsRow_setCell_below HK3.out.2.1 (by simp) _
    ·rw [e1]
     refine RepX.snoc (HG2.out.2.to fun j hj hlt => ?_) dn xs (RepX.to (fun j hj hlt => ?_) dn xs HO.out.2.1)
     ·have h9 : wr.heap.size ≤ j := hj
      have := hne j (by omega) hlt (fun e => by have := owns_old HO.out.1 j e; omega)
      exact ⟨⟨by omega, this.1⟩, this.2⟩
     ·have := hne j hj.1 (by omega) hj.2
      exact ⟨⟨hj.1, this.1⟩, by rw [this.2]; exact HBR.out.block j hlt⟩
    ·exact HB3.out.setCell (by simp; omega) _
    ·have := HB3.out.size
     have h8 := HK3.out.2.2.1.size
     simp at h8 ⊢
     omega
   case measure => simp [intOf]; omega
theorem of_all (f : F) : f.All OfQ := F.all_of of_q f
theorem of_c (k n : Int) (s : ByteArray) (l : F) : OfQ k n s l := of_q k n s l (of_all l)
end Go.Proofs.YtoealjcjpjapkaaGreatDoor
