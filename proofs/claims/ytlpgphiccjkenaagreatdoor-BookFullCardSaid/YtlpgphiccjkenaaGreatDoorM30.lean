/-
 Contracts of the program, and what they rest on.
-/
import Derived.Test.YtlpgphiccjkenaaGreatDoorM29
import Derived.Test.YtlpgphiccjkenaaGreatDoorM23
import Derived.Test.YtlpgphiccjkenaaGreatDoorM28
import Derived.Test.YtlpgphiccjkenaaGreatDoorM27
import Derived.Test.YtlpgphiccjkenaaGreatDoorM03
set_option maxRecDepth 100000
set_option maxHeartbeats 16000000
namespace Go.Proofs.YtlpgphiccjkenaaGreatDoor
open Go.RowKit
theorem begun1_p (w : World) (h : LibAt w) : Calls Tryz.prog 23 #[] w fun e w' => e = .returned (.bool true) ∧ Below w.heap.size w w' := by
 have HB := Lib.hid (begun_true w h)
 clear h
 go_enter Tryz.func23, Tryz.ntmps23
 go_wp2_with (go_at_call 56; refine HB.out.mono ?_; rintro _ w1 ⟨rfl, hb⟩)
 go_ret
 exact ⟨rfl, hb⟩
theorem lput_p (w : World) : Calls Tryz.prog 15 #[.string ⟨#[107]⟩, .string ⟨#[118]⟩, .int .i64 1] w fun e w' => e = .returned (dagg bd0) ∧ Below w.heap.size w w' := by
 unfold dagg bd0
 dsimp only
 go_enter Tryz.func15, Tryz.ntmps15
 go_wp2_with fail
 exact bodyPost_ret (v := .agg #[.int .i64 1, .string ⟨#[107]⟩, .string ⟨#[118]⟩, .int .i64 0, .int .i64 0, .string ⟨#[]⟩, .int .i64 4294967297, .int .i64 0]) (by simp [results, Tryz.results15, go_sem]) rfl ⟨rfl, (Below.refl _ _).alloc (Nat.le_refl _) _⟩
theorem getAns_some {t : ByteArray} {e : Ending} {d : De} (h : GetAns t e) (hd : mayD d) (hw : d.wf) (ht : t = putV 3 0 ⟨#[]⟩ d.parts) : e = .returned (.tuple #[dagg d, .int .i64 0]) := by
 obtain ⟨r, he, hr⟩ := h
 rw [(hr d).2 ⟨hd, hw, ht⟩] at he
 exact he
theorem getAns_empty {e : Ending} (h : GetAns ⟨#[]⟩ e) : e = .returned (.tuple #[dagg De.zero, .int .i64 1]) := by
 obtain ⟨r, he, hr⟩ := h
 cases r with
 | none => exact he
 | some d =>
  obtain ⟨h1, h2, h3⟩ := (hr d).1 rfl
  obtain ⟨a, b, c⟩ := mayD_bd h1
  exact absurd (show (putV 3 0 ⟨#[]⟩ d.parts).size = 0 by rw [← h3]; rfl) (De.putV_pos h2 (by omega) (by omega) (by omega))
theorem b4put_size (s : Bk) : (b4put s).size ≤ 10000022 := by
 unfold b4put putS
 split
 ·split
  ·exact putV_size _ _ _ _
  ·exact Nat.zero_le _
 ·exact Nat.zero_le _
theorem bat_own {w : World} {B : Nat} {s : Bk} {u v : Value} (he : EOwn w B u s.l) (hm : MOwn w B v s.ms) (h1 : s.l.length ≤ 1000000) (h2 : s.ms.length ≤ 1000000) (h3 : ∀ e ∈ s.l, e.vs.length ≤ 1000000) : BAt w s u v := ⟨he.at, hm.at, h1, h2, h3⟩
def HBk (w : World) (b : Nat) (cs : Array Value) (T : TypeId) : Prop := w.heap[b]? = some (.cells cs T (0, 0))
theorem HBk.below {w w' : World} {b : Nat} {cs : Array Value} {T : TypeId} (h : HBk w b cs T) (hb : Below w.heap.size w w') : HBk w' b cs T := (hb.block b (Array.getElem?_eq_some_iff.1 h).1).trans h
def HCell (w : World) (g o : Nat) (v : Value) : Prop := g < w.heap.size ∧ w.cell? ⟨g, o, none⟩ = some v
theorem HCell.below {w w' : World} {g o : Nat} {v : Value} (h : HCell w g o v) (hb : Below w.heap.size w w') : HCell w' g o v := ⟨Nat.lt_of_lt_of_le h.1 hb.size, (hb.cell (p := ⟨g, o, none⟩) h.1).trans h.2⟩
theorem begun5_true : Begun5True := by
 intro w hL
 have HL := Lib.hid hL
 have HB := Lib.hid (Below.refl w.heap.size w)
 have HPUT := Lib.hid lput_p
 have HDP := Lib.hid (fun W (h : LibAt W) => dput_p bd0 true ⟨fun _ => bd0_may, fun _ => rfl⟩ bd0_wf W h.1 h.2.1 h.2.2.2)
 have HDG := Lib.hid (fun W (h : LibAt W) => dget_p (putV 3 0 ⟨#[]⟩ bd0.parts) (by have := putV_size 3 0 ⟨#[]⟩ bd0.parts; omega) W h)
 have HDE := Lib.hid (fun W (h : LibAt W) => dget_p ⟨#[]⟩ (by decide) W h)
 have HDZ := Lib.hid (fun W (h : LibAt W) => do_p Bk.zero (.slice none 0 0) (.slice none 0 0) bd0 true W ⟨.inl ⟨rfl, rfl⟩, .inl ⟨rfl, rfl⟩, Nat.zero_le _, Nat.zero_le _, fun _ h => (by cases h)⟩ bgz_wf.wf bd0_wf h ⟨fun _ => bd0_may, fun _ => rfl⟩ (fun h => absurd rfl h) (fun h => absurd h (by decide +kernel)))
 have HD1 := Lib.hid (fun u v W (h : LibAt W) hb => do_p bg1 u v bd1 true W hb bg1_wf.wf bd1_wf h ⟨fun _ => bd1_may, fun _ => rfl⟩ (fun _ h => absurd rfl h) (fun h => absurd h (by decide +kernel)))
 have HD2 := Lib.hid (fun u v W (h : LibAt W) hb => do_p bg2 u v bd0 true W hb bg2_wf.wf bd0_wf h ⟨fun _ => bd0_may, fun _ => rfl⟩ (fun h => absurd rfl h) (fun h => absurd h (by decide +kernel)))
 have HG1 := Lib.hid (fun u v W hb => bget_p bg1 ⟨#[107]⟩ 0 u v W hb)
 have HG2 := Lib.hid (fun u v W hb => bget_p bg2 ⟨#[107]⟩ 0 u v W hb)
 have HNA := Lib.hid (fun u v W hb => names1 bg1 ⟨⟨#[107]⟩, [⟨1, false, ⟨#[118]⟩⟩]⟩ u v W hb rfl rfl (by decide) bg_now)
 have HPB := Lib.hid (fun u v W (h : LibAt W) hb => bput_p bg2 u v W hb bg2_wf.wf bg2_wf.tree h.2.2.2)
 have HRB := Lib.hid (fun W (h : LibAt W) => bread_p (b4put bg2) W (by have := b4put_size bg2; omega) h)
 have HEQ := Lib.hid (fun u v u' v' W h h' => beq_p bg2 bg2 u v u' v' W h h' true ⟨fun _ => rfl, fun _ => rfl⟩)
 have HMB := Lib.hid (fun u v W hb => bmay_p bg2 u v W hb bg2_wf.wf)
 have hk1 : ∀ W, Calls Tryz.prog 24 #[.string ⟨#[97, 47, 98, 46, 99, 45, 49, 95]⟩] W fun e w' => e = .returned (.bool true) ∧ Below W.heap.size W w' := fun W => by
  have := key_p ⟨#[97, 47, 98, 46, 99, 45, 49, 95]⟩ W
  rw [show keyB ⟨#[97, 47, 98, 46, 99, 45, 49, 95]⟩ = true by decide +kernel] at this
  exact this
 have hk2 : ∀ W, Calls Tryz.prog 24 #[.string ⟨#[65]⟩] W fun e w' => e = .returned (.bool false) ∧ Below W.heap.size W w' := fun W => by
  have := key_p ⟨#[65]⟩ W
  rw [show keyB ⟨#[65]⟩ = false by decide +kernel] at this
  exact this
 have hh3 : ∀ W, Calls Tryz.prog 26 #[.int .i64 12884901889] W fun e w' => e = .returned (.int .i64 3) ∧ Below W.heap.size W w' := fun W => by
  refine (home_p 12884901889 (by decide) (by decide) W).mono ?_
  rintro _ _ ⟨rfl, rfl⟩
  rw [show homeP 12884901889 = 3 by decide +kernel]
  exact ⟨rfl, Below.refl _ _⟩
 have hm2 : ∀ W, Calls Tryz.prog 27 #[.int .i64 2, .int .i64 5] W fun e w' => e = .returned (.int .i64 8589934597) ∧ Below W.heap.size W w' := fun W => by
  refine (make_p 2 5 (by decide) (by decide) (by decide) (by decide) W).mono ?_
  rintro _ _ ⟨rfl, rfl⟩
  rw [show makeP 2 5 = 8589934597 by decide +kernel]
  exact ⟨rfl, Below.refl _ _⟩
 have HTM := Lib.hid (fun (ga : Option Addr) gm W h => tmay_p ⟨#[107]⟩ (.slice ga 2 gm) [(⟨1, false, ⟨#[118]⟩⟩ : Ve), ⟨2, true, ⟨#[]⟩⟩] W h (by decide))
 rw [bg2_ent] at HTM
 replace hk1 := Lib.hid hk1
 replace hk2 := Lib.hid hk2
 replace hh3 := Lib.hid hh3
 replace hm2 := Lib.hid hm2
 have HMD := Lib.hid (fun W (h : LibAt W) => dmay_p bd0 true ⟨fun _ => bd0_may, fun _ => rfl⟩ bd0_wf W h.1 h.2.1)
 have HMZ := Lib.hid (fun W (h : LibAt W) => dmay_p De.zero false ⟨fun h => (by cases h), fun h => absurd h bdz_may⟩ bdz_wf W h.1 h.2.1)
 rw [bg2_may] at HMB
 rw [bg2_read] at HRB
 rw [bg_get1] at HG1
 rw [bg_get2] at HG2
 rw [bg_do1] at HDZ
 rw [bg_do2] at HD1
 rw [bg_do3] at HD2
 unfold DoAns at HDZ HD1 HD2
 unfold ReadAns at HRB
 unfold bagg at *
 unfold dagg at *
 unfold veagg at *
 dsimp only [Ve.zero, Bk.zero] at HDZ HD1 HD2 HG1 HG2 HRB
 have l11 : bg1.l.length = 1 := rfl
 have l12 : bg1.ms.length = 1 := rfl
 have l21 : bg2.l.length = 1 := rfl
 have l22 : bg2.ms.length = 2 := rfl
 have l31 : bg3.l.length = 1 := rfl
 have l32 : bg3.ms.length = 2 := rfl
 rw [l11, l12] at HDZ
 rw [l21, l22] at HD1 HRB
 rw [l31, l32] at HD2
 have HS1 := Lib.hid (show bg1.l.length ≤ 1000000 ∧ bg1.ms.length ≤ 1000000 ∧ ∀ e ∈ bg1.l, e.vs.length ≤ 1000000 from ⟨by decide, by decide, by unfold bg1; simp⟩)
 have HS2 := Lib.hid (show bg2.l.length ≤ 1000000 ∧ bg2.ms.length ≤ 1000000 ∧ ∀ e ∈ bg2.l, e.vs.length ≤ 1000000 from ⟨by decide, by decide, by unfold bg2; simp⟩)
 clear l11 l12 l21 l22 l31 l32
 generalize hT : putV 3 0 ⟨#[]⟩ bd0.parts = T at *
 have HT := Lib.hid hT
 clear hT hL
 go_enter Tryz.func6, Tryz.ntmps6
 go_wp2_with fail
 refine (HPUT.out _).mono ?_
 rintro _ w1 ⟨rfl, hb⟩
 replace HB := Lib.hid (HB.out.trans (hb.mono HB.out.size))
 replace HL := Lib.hid (HL.out.below hb)
 clear hb
 go_wp2_with fail
 have hb := ((Below.refl w1.heap.size w1).alloc (by simp) (.cells #[.int .i64 bd0.kind, .string bd0.key, .string bd0.body, .int .i64 bd0.ver, .int .i64 bd0.cond, .string bd0.tag, .int .i64 bd0.req, .int .i64 bd0.low] 35))
 have D1 : Hid (DB (w1.alloc (.cells #[.int .i64 bd0.kind, .string bd0.key, .string bd0.body, .int .i64 bd0.ver, .int .i64 bd0.cond, .string bd0.tag, .int .i64 bd0.req, .int .i64 bd0.low] 35)) (w1.heap.size) bd0) := Lib.hid (by exact (heap_alloc_new w1 _))
 replace HB := Lib.hid (HB.out.trans (hb.mono HB.out.size))
 replace HL := Lib.hid (HL.out.below hb)
 clear hb
 generalize (w1.alloc (.cells #[.int .i64 bd0.kind, .string bd0.key, .string bd0.body, .int .i64 bd0.ver, .int .i64 bd0.cond, .string bd0.tag, .int .i64 bd0.req, .int .i64 bd0.low] 35)) = W1 at *
 refine (HDP.out _ HL.out).mono ?_
 rintro _ w2 ⟨rfl, hb⟩
 replace D1 := Lib.hid (D1.out.below hb)
 replace HB := Lib.hid (HB.out.trans (hb.mono HB.out.size))
 replace HL := Lib.hid (HL.out.below hb)
 clear hb
 go_wp2_with fail
 refine (HDG.out _ HL.out).mono ?_
 rintro _ w3 ⟨ha, hb⟩
 obtain rfl := getAns_some ha bd0_may bd0_wf HT.out.symm
 clear ha
 unfold dagg
 replace D1 := Lib.hid (D1.out.below hb)
 replace HB := Lib.hid (HB.out.trans (hb.mono HB.out.size))
 replace HL := Lib.hid (HL.out.below hb)
 clear hb
 go_wp2_with fail
 have hb := ((Below.refl w3.heap.size w3).alloc (by simp) (.cells #[.int .i64 bd0.kind, .string bd0.key, .string bd0.body, .int .i64 bd0.ver, .int .i64 bd0.cond, .string bd0.tag, .int .i64 bd0.req, .int .i64 bd0.low] 35))
 have D3 : Hid (DB (w3.alloc (.cells #[.int .i64 bd0.kind, .string bd0.key, .string bd0.body, .int .i64 bd0.ver, .int .i64 bd0.cond, .string bd0.tag, .int .i64 bd0.req, .int .i64 bd0.low] 35)) (w3.heap.size) bd0) := Lib.hid (by exact (heap_alloc_new w3 _))
 replace D1 := Lib.hid (D1.out.below hb)
 replace HB := Lib.hid (HB.out.trans (hb.mono HB.out.size))
 replace HL := Lib.hid (HL.out.below hb)
 clear hb
 generalize (w3.alloc (.cells #[.int .i64 bd0.kind, .string bd0.key, .string bd0.body, .int .i64 bd0.ver, .int .i64 bd0.cond, .string bd0.tag, .int .i64 bd0.req, .int .i64 bd0.low] 35)) = W3 at *
 refine (HDE.out _ HL.out).mono ?_
 rintro _ w4 ⟨ha, hb⟩
 obtain rfl := getAns_empty ha
 clear ha
 unfold dagg
 replace D1 := Lib.hid (D1.out.below hb)
 replace D3 := Lib.hid (D3.out.below hb)
 replace HB := Lib.hid (HB.out.trans (hb.mono HB.out.size))
 replace HL := Lib.hid (HL.out.below hb)
 clear hb
 obtain ⟨D10, D11, D12, D13, D14, D15, D16, D17⟩ := D1.out.cells
 have D1l := D1.out.lt
 go_wp2_with fail
 have hb := ((Below.refl w4.heap.size w4).alloc (by simp) (.cells #[.int .i64 De.zero.kind, .string De.zero.key, .string De.zero.body, .int .i64 De.zero.ver, .int .i64 De.zero.cond, .string De.zero.tag, .int .i64 De.zero.req, .int .i64 De.zero.low] 35))
 have D5 : Hid (DB (w4.alloc (.cells #[.int .i64 De.zero.kind, .string De.zero.key, .string De.zero.body, .int .i64 De.zero.ver, .int .i64 De.zero.cond, .string De.zero.tag, .int .i64 De.zero.req, .int .i64 De.zero.low] 35)) (w4.heap.size) De.zero) := Lib.hid (by exact (heap_alloc_new w4 _))
 replace D1 := Lib.hid (D1.out.below hb)
 replace D3 := Lib.hid (D3.out.below hb)
 replace HB := Lib.hid (HB.out.trans (hb.mono HB.out.size))
 replace HL := Lib.hid (HL.out.below hb)
 clear hb D10 D11 D12 D13 D14 D15 D16 D17 D1l
 generalize (w4.alloc (.cells #[.int .i64 De.zero.kind, .string De.zero.key, .string De.zero.body, .int .i64 De.zero.ver, .int .i64 De.zero.cond, .string De.zero.tag, .int .i64 De.zero.req, .int .i64 De.zero.low] 35)) = W4 at *
 refine (HDZ.out _ HL.out).mono ?_
 rintro _ w5 ⟨pa, pc, pb, pd, rfl, pe, pm, hb⟩
 have pE := Lib.hid (pe)
 have pM := Lib.hid (pm)
 clear pe pm
 replace D1 := Lib.hid (D1.out.below hb)
 replace D3 := Lib.hid (D3.out.below hb)
 replace D5 := Lib.hid (D5.out.below hb)
 replace HB := Lib.hid (HB.out.trans (hb.mono HB.out.size))
 replace HL := Lib.hid (HL.out.below hb)
 clear hb
 go_wp2_with fail
 have hb := (((Below.refl w5.heap.size w5).alloc (by simp) (.cells #[.int .i64 bg1.seq, .slice pa 1 pc, .slice pb 1 pd, .int .i64 bg1.l1, .int .i64 bg1.l2, .int .i64 bg1.l3, .int .i64 bg1.l4, .int .i64 bg1.l5] 27)).alloc (by simp) (.cells #[.int .i64 0, .int .i64 1] 30))
 have B7 : Hid (BC ((w5.alloc (.cells #[.int .i64 bg1.seq, .slice pa 1 pc, .slice pb 1 pd, .int .i64 bg1.l1, .int .i64 bg1.l2, .int .i64 bg1.l3, .int .i64 bg1.l4, .int .i64 bg1.l5] 27)).alloc (.cells #[.int .i64 0, .int .i64 1] 30)) (w5.heap.size) bg1 (.slice pa 1 pc) (.slice pb 1 pd)) := Lib.hid (by exact ((BC.new w5 bg1 _ _)).below ((Below.refl _ _).alloc (Nat.le_refl _) (.cells #[.int .i64 0, .int .i64 1] 30)))
 have R8 : Hid (RC ((w5.alloc (.cells #[.int .i64 bg1.seq, .slice pa 1 pc, .slice pb 1 pd, .int .i64 bg1.l1, .int .i64 bg1.l2, .int .i64 bg1.l3, .int .i64 bg1.l4, .int .i64 bg1.l5] 27)).alloc (.cells #[.int .i64 0, .int .i64 1] 30)) (w5.heap.size + 1) ⟨0, 1⟩) := Lib.hid (by exact (by have := (RC.new (w5.alloc (.cells #[.int .i64 bg1.seq, .slice pa 1 pc, .slice pb 1 pd, .int .i64 bg1.l1, .int .i64 bg1.l2, .int .i64 bg1.l3, .int .i64 bg1.l4, .int .i64 bg1.l5] 27)) ⟨0, 1⟩); simpa using this))
 replace D1 := Lib.hid (D1.out.below hb)
 replace D3 := Lib.hid (D3.out.below hb)
 replace D5 := Lib.hid (D5.out.below hb)
 replace pE := Lib.hid (pE.out.below hb)
 replace pM := Lib.hid (pM.out.below hb)
 replace HB := Lib.hid (HB.out.trans (hb.mono HB.out.size))
 replace HL := Lib.hid (HL.out.below hb)
 clear hb
 generalize ((w5.alloc (.cells #[.int .i64 bg1.seq, .slice pa 1 pc, .slice pb 1 pd, .int .i64 bg1.l1, .int .i64 bg1.l2, .int .i64 bg1.l3, .int .i64 bg1.l4, .int .i64 bg1.l5] 27)).alloc (.cells #[.int .i64 0, .int .i64 1] 30)) = W5 at *
 refine (HD1.out _ _ _ HL.out (bat_own pE.out pM.out HS1.out.1 HS1.out.2.1 HS1.out.2.2)).mono ?_
 rintro _ w6 ⟨qa, qc, qb, qd, rfl, qe, qm, hb⟩
 have qE := Lib.hid (qe)
 have qM := Lib.hid (qm)
 clear qe qm
 replace D1 := Lib.hid (D1.out.below hb)
 replace D3 := Lib.hid (D3.out.below hb)
 replace D5 := Lib.hid (D5.out.below hb)
 replace pE := Lib.hid (pE.out.below hb)
 replace pM := Lib.hid (pM.out.below hb)
 replace B7 := Lib.hid (B7.out.below hb)
 replace R8 := Lib.hid (R8.out.below hb)
 replace HB := Lib.hid (HB.out.trans (hb.mono HB.out.size))
 replace HL := Lib.hid (HL.out.below hb)
 clear hb
 obtain ⟨B70, B71, B72, B73, B74, B75, B76, B77⟩ := B7.out.cells
 have B7l := B7.out.lt
 go_wp2_with fail
 have hb := (((Below.refl w6.heap.size w6).alloc (by simp) (.cells #[.int .i64 bg2.seq, .slice qa 1 qc, .slice qb 2 qd, .int .i64 bg2.l1, .int .i64 bg2.l2, .int .i64 bg2.l3, .int .i64 bg2.l4, .int .i64 bg2.l5] 27)).alloc (by simp) (.cells #[.int .i64 0, .int .i64 2] 30))
 have B9 : Hid (BC ((w6.alloc (.cells #[.int .i64 bg2.seq, .slice qa 1 qc, .slice qb 2 qd, .int .i64 bg2.l1, .int .i64 bg2.l2, .int .i64 bg2.l3, .int .i64 bg2.l4, .int .i64 bg2.l5] 27)).alloc (.cells #[.int .i64 0, .int .i64 2] 30)) (w6.heap.size) bg2 (.slice qa 1 qc) (.slice qb 2 qd)) := Lib.hid (by exact ((BC.new w6 bg2 _ _)).below ((Below.refl _ _).alloc (Nat.le_refl _) (.cells #[.int .i64 0, .int .i64 2] 30)))
 have R10 : Hid (RC ((w6.alloc (.cells #[.int .i64 bg2.seq, .slice qa 1 qc, .slice qb 2 qd, .int .i64 bg2.l1, .int .i64 bg2.l2, .int .i64 bg2.l3, .int .i64 bg2.l4, .int .i64 bg2.l5] 27)).alloc (.cells #[.int .i64 0, .int .i64 2] 30)) (w6.heap.size + 1) ⟨0, 2⟩) := Lib.hid (by exact (by have := (RC.new (w6.alloc (.cells #[.int .i64 bg2.seq, .slice qa 1 qc, .slice qb 2 qd, .int .i64 bg2.l1, .int .i64 bg2.l2, .int .i64 bg2.l3, .int .i64 bg2.l4, .int .i64 bg2.l5] 27)) ⟨0, 2⟩); simpa using this))
 replace D1 := Lib.hid (D1.out.below hb)
 replace D3 := Lib.hid (D3.out.below hb)
 replace D5 := Lib.hid (D5.out.below hb)
 replace pE := Lib.hid (pE.out.below hb)
 replace pM := Lib.hid (pM.out.below hb)
 replace B7 := Lib.hid (B7.out.below hb)
 replace R8 := Lib.hid (R8.out.below hb)
 replace qE := Lib.hid (qE.out.below hb)
 replace qM := Lib.hid (qM.out.below hb)
 replace HB := Lib.hid (HB.out.trans (hb.mono HB.out.size))
 replace HL := Lib.hid (HL.out.below hb)
 clear hb B70 B71 B72 B73 B74 B75 B76 B77 B7l
 generalize ((w6.alloc (.cells #[.int .i64 bg2.seq, .slice qa 1 qc, .slice qb 2 qd, .int .i64 bg2.l1, .int .i64 bg2.l2, .int .i64 bg2.l3, .int .i64 bg2.l4, .int .i64 bg2.l5] 27)).alloc (.cells #[.int .i64 0, .int .i64 2] 30)) = W6 at *
 refine (HG1.out _ _ _ (bat_own pE.out pM.out HS1.out.1 HS1.out.2.1 HS1.out.2.2)).mono ?_
 rintro _ w7 ⟨rfl, hb⟩
 replace D1 := Lib.hid (D1.out.below hb)
 replace D3 := Lib.hid (D3.out.below hb)
 replace D5 := Lib.hid (D5.out.below hb)
 replace pE := Lib.hid (pE.out.below hb)
 replace pM := Lib.hid (pM.out.below hb)
 replace B7 := Lib.hid (B7.out.below hb)
 replace R8 := Lib.hid (R8.out.below hb)
 replace qE := Lib.hid (qE.out.below hb)
 replace qM := Lib.hid (qM.out.below hb)
 replace B9 := Lib.hid (B9.out.below hb)
 replace R10 := Lib.hid (R10.out.below hb)
 replace HB := Lib.hid (HB.out.trans (hb.mono HB.out.size))
 replace HL := Lib.hid (HL.out.below hb)
 clear hb
 obtain ⟨B90, B91, B92, B93, B94, B95, B96, B97⟩ := B9.out.cells
 have B9l := B9.out.lt
 go_wp2_with fail
 have hb := ((Below.refl w7.heap.size w7).alloc (by simp) (.cells #[.int .i64 1, .bool false, .string ⟨#[118]⟩] 55))
 have V11 : Hid (HBk (w7.alloc (.cells #[.int .i64 1, .bool false, .string ⟨#[118]⟩] 55)) (w7.heap.size) #[.int .i64 1, .bool false, .string ⟨#[118]⟩] 55) := Lib.hid (by exact (show HBk _ _ _ _ from heap_alloc_new w7 _))
 replace D1 := Lib.hid (D1.out.below hb)
 replace D3 := Lib.hid (D3.out.below hb)
 replace D5 := Lib.hid (D5.out.below hb)
 replace pE := Lib.hid (pE.out.below hb)
 replace pM := Lib.hid (pM.out.below hb)
 replace B7 := Lib.hid (B7.out.below hb)
 replace R8 := Lib.hid (R8.out.below hb)
 replace qE := Lib.hid (qE.out.below hb)
 replace qM := Lib.hid (qM.out.below hb)
 replace B9 := Lib.hid (B9.out.below hb)
 replace R10 := Lib.hid (R10.out.below hb)
 replace HB := Lib.hid (HB.out.trans (hb.mono HB.out.size))
 replace HL := Lib.hid (HL.out.below hb)
 clear hb B90 B91 B92 B93 B94 B95 B96 B97 B9l
 generalize (w7.alloc (.cells #[.int .i64 1, .bool false, .string ⟨#[118]⟩] 55)) = W7 at *
 refine (HG2.out _ _ _ (bat_own qE.out qM.out HS2.out.1 HS2.out.2.1 HS2.out.2.2)).mono ?_
 rintro _ w8 ⟨rfl, hb⟩
 replace D1 := Lib.hid (D1.out.below hb)
 replace D3 := Lib.hid (D3.out.below hb)
 replace D5 := Lib.hid (D5.out.below hb)
 replace pE := Lib.hid (pE.out.below hb)
 replace pM := Lib.hid (pM.out.below hb)
 replace B7 := Lib.hid (B7.out.below hb)
 replace R8 := Lib.hid (R8.out.below hb)
 replace qE := Lib.hid (qE.out.below hb)
 replace qM := Lib.hid (qM.out.below hb)
 replace B9 := Lib.hid (B9.out.below hb)
 replace R10 := Lib.hid (R10.out.below hb)
 replace V11 := Lib.hid (V11.out.below hb)
 replace HB := Lib.hid (HB.out.trans (hb.mono HB.out.size))
 replace HL := Lib.hid (HL.out.below hb)
 clear hb
 obtain ⟨B70, B71, B72, B73, B74, B75, B76, B77⟩ := B7.out.cells
 have B7l := B7.out.lt
 go_wp2_with fail
 have hb := ((Below.refl w8.heap.size w8).alloc (by simp) (.cells #[.int .i64 0, .bool false, .string ⟨#[]⟩] 55))
 have V13 : Hid (HBk (w8.alloc (.cells #[.int .i64 0, .bool false, .string ⟨#[]⟩] 55)) (w8.heap.size) #[.int .i64 0, .bool false, .string ⟨#[]⟩] 55) := Lib.hid (by exact (show HBk _ _ _ _ from heap_alloc_new w8 _))
 replace D1 := Lib.hid (D1.out.below hb)
 replace D3 := Lib.hid (D3.out.below hb)
 replace D5 := Lib.hid (D5.out.below hb)
 replace pE := Lib.hid (pE.out.below hb)
 replace pM := Lib.hid (pM.out.below hb)
 replace B7 := Lib.hid (B7.out.below hb)
 replace R8 := Lib.hid (R8.out.below hb)
 replace qE := Lib.hid (qE.out.below hb)
 replace qM := Lib.hid (qM.out.below hb)
 replace B9 := Lib.hid (B9.out.below hb)
 replace R10 := Lib.hid (R10.out.below hb)
 replace V11 := Lib.hid (V11.out.below hb)
 replace HB := Lib.hid (HB.out.trans (hb.mono HB.out.size))
 replace HL := Lib.hid (HL.out.below hb)
 clear hb B70 B71 B72 B73 B74 B75 B76 B77 B7l
 generalize (w8.alloc (.cells #[.int .i64 0, .bool false, .string ⟨#[]⟩] 55)) = W8 at *
 refine (HNA.out _ _ _ (bat_own pE.out pM.out HS1.out.1 HS1.out.2.1 HS1.out.2.2)).mono ?_
 rintro _ w9 ⟨na, nc, rfl, hb⟩
 replace D1 := Lib.hid (D1.out.below hb)
 replace D3 := Lib.hid (D3.out.below hb)
 replace D5 := Lib.hid (D5.out.below hb)
 replace pE := Lib.hid (pE.out.below hb)
 replace pM := Lib.hid (pM.out.below hb)
 replace B7 := Lib.hid (B7.out.below hb)
 replace R8 := Lib.hid (R8.out.below hb)
 replace qE := Lib.hid (qE.out.below hb)
 replace qM := Lib.hid (qM.out.below hb)
 replace B9 := Lib.hid (B9.out.below hb)
 replace R10 := Lib.hid (R10.out.below hb)
 replace V11 := Lib.hid (V11.out.below hb)
 replace V13 := Lib.hid (V13.out.below hb)
 replace HB := Lib.hid (HB.out.trans (hb.mono HB.out.size))
 replace HL := Lib.hid (HL.out.below hb)
 clear hb
 obtain ⟨B90, B91, B92, B93, B94, B95, B96, B97⟩ := B9.out.cells
 have B9l := B9.out.lt
 obtain ⟨D10, D11, D12, D13, D14, D15, D16, D17⟩ := D1.out.cells
 have D1l := D1.out.lt
 go_wp2_with fail
 clear B90 B91 B92 B93 B94 B95 B96 B97 B9l D10 D11 D12 D13 D14 D15 D16 D17 D1l
 refine (HD2.out _ _ _ HL.out (bat_own qE.out qM.out HS2.out.1 HS2.out.2.1 HS2.out.2.2)).mono ?_
 rintro _ w10 ⟨ra, rc, rb, rd, rfl, re, rm, hb⟩
 have rE := Lib.hid (re)
 have rM := Lib.hid (rm)
 clear re rm
 replace D1 := Lib.hid (D1.out.below hb)
 replace D3 := Lib.hid (D3.out.below hb)
 replace D5 := Lib.hid (D5.out.below hb)
 replace pE := Lib.hid (pE.out.below hb)
 replace pM := Lib.hid (pM.out.below hb)
 replace B7 := Lib.hid (B7.out.below hb)
 replace R8 := Lib.hid (R8.out.below hb)
 replace qE := Lib.hid (qE.out.below hb)
 replace qM := Lib.hid (qM.out.below hb)
 replace B9 := Lib.hid (B9.out.below hb)
 replace R10 := Lib.hid (R10.out.below hb)
 replace V11 := Lib.hid (V11.out.below hb)
 replace V13 := Lib.hid (V13.out.below hb)
 replace HB := Lib.hid (HB.out.trans (hb.mono HB.out.size))
 replace HL := Lib.hid (HL.out.below hb)
 clear hb
 obtain ⟨B90, B91, B92, B93, B94, B95, B96, B97⟩ := B9.out.cells
 have B9l := B9.out.lt
 go_wp2_with fail
 have hb := (((Below.refl w10.heap.size w10).alloc (by simp) (.cells #[.int .i64 bg3.seq, .slice ra 1 rc, .slice rb 2 rd, .int .i64 bg3.l1, .int .i64 bg3.l2, .int .i64 bg3.l3, .int .i64 bg3.l4, .int .i64 bg3.l5] 27)).alloc (by simp) (.cells #[.int .i64 0, .int .i64 1] 30))
 have B17 : Hid (BC ((w10.alloc (.cells #[.int .i64 bg3.seq, .slice ra 1 rc, .slice rb 2 rd, .int .i64 bg3.l1, .int .i64 bg3.l2, .int .i64 bg3.l3, .int .i64 bg3.l4, .int .i64 bg3.l5] 27)).alloc (.cells #[.int .i64 0, .int .i64 1] 30)) (w10.heap.size) bg3 (.slice ra 1 rc) (.slice rb 2 rd)) := Lib.hid (by exact ((BC.new w10 bg3 _ _)).below ((Below.refl _ _).alloc (Nat.le_refl _) (.cells #[.int .i64 0, .int .i64 1] 30)))
 have R18 : Hid (RC ((w10.alloc (.cells #[.int .i64 bg3.seq, .slice ra 1 rc, .slice rb 2 rd, .int .i64 bg3.l1, .int .i64 bg3.l2, .int .i64 bg3.l3, .int .i64 bg3.l4, .int .i64 bg3.l5] 27)).alloc (.cells #[.int .i64 0, .int .i64 1] 30)) (w10.heap.size + 1) ⟨0, 1⟩) := Lib.hid (by exact (by have := (RC.new (w10.alloc (.cells #[.int .i64 bg3.seq, .slice ra 1 rc, .slice rb 2 rd, .int .i64 bg3.l1, .int .i64 bg3.l2, .int .i64 bg3.l3, .int .i64 bg3.l4, .int .i64 bg3.l5] 27)) ⟨0, 1⟩); simpa using this))
 replace D1 := Lib.hid (D1.out.below hb)
 replace D3 := Lib.hid (D3.out.below hb)
 replace D5 := Lib.hid (D5.out.below hb)
 replace pE := Lib.hid (pE.out.below hb)
 replace pM := Lib.hid (pM.out.below hb)
 replace B7 := Lib.hid (B7.out.below hb)
 replace R8 := Lib.hid (R8.out.below hb)
 replace qE := Lib.hid (qE.out.below hb)
 replace qM := Lib.hid (qM.out.below hb)
 replace B9 := Lib.hid (B9.out.below hb)
 replace R10 := Lib.hid (R10.out.below hb)
 replace V11 := Lib.hid (V11.out.below hb)
 replace V13 := Lib.hid (V13.out.below hb)
 replace rE := Lib.hid (rE.out.below hb)
 replace rM := Lib.hid (rM.out.below hb)
 replace HB := Lib.hid (HB.out.trans (hb.mono HB.out.size))
 replace HL := Lib.hid (HL.out.below hb)
 clear hb B90 B91 B92 B93 B94 B95 B96 B97 B9l
 generalize ((w10.alloc (.cells #[.int .i64 bg3.seq, .slice ra 1 rc, .slice rb 2 rd, .int .i64 bg3.l1, .int .i64 bg3.l2, .int .i64 bg3.l3, .int .i64 bg3.l4, .int .i64 bg3.l5] 27)).alloc (.cells #[.int .i64 0, .int .i64 1] 30)) = W10 at *
 refine (HPB.out _ _ _ HL.out (bat_own qE.out qM.out HS2.out.1 HS2.out.2.1 HS2.out.2.2)).mono ?_
 rintro _ w11 ⟨rfl, hb⟩
 replace D1 := Lib.hid (D1.out.below hb)
 replace D3 := Lib.hid (D3.out.below hb)
 replace D5 := Lib.hid (D5.out.below hb)
 replace pE := Lib.hid (pE.out.below hb)
 replace pM := Lib.hid (pM.out.below hb)
 replace B7 := Lib.hid (B7.out.below hb)
 replace R8 := Lib.hid (R8.out.below hb)
 replace qE := Lib.hid (qE.out.below hb)
 replace qM := Lib.hid (qM.out.below hb)
 replace B9 := Lib.hid (B9.out.below hb)
 replace R10 := Lib.hid (R10.out.below hb)
 replace V11 := Lib.hid (V11.out.below hb)
 replace V13 := Lib.hid (V13.out.below hb)
 replace rE := Lib.hid (rE.out.below hb)
 replace rM := Lib.hid (rM.out.below hb)
 replace B17 := Lib.hid (B17.out.below hb)
 replace R18 := Lib.hid (R18.out.below hb)
 replace HB := Lib.hid (HB.out.trans (hb.mono HB.out.size))
 replace HL := Lib.hid (HL.out.below hb)
 clear hb
 go_wp2_with fail
 refine (HRB.out _ HL.out).mono ?_
 rintro _ w12 ⟨hb, sa, sc, sb, sd, rfl, se, sm⟩
 have sE := Lib.hid se
 have sM := Lib.hid sm
 clear se sm
 replace D1 := Lib.hid (D1.out.below hb)
 replace D3 := Lib.hid (D3.out.below hb)
 replace D5 := Lib.hid (D5.out.below hb)
 replace pE := Lib.hid (pE.out.below hb)
 replace pM := Lib.hid (pM.out.below hb)
 replace B7 := Lib.hid (B7.out.below hb)
 replace R8 := Lib.hid (R8.out.below hb)
 replace qE := Lib.hid (qE.out.below hb)
 replace qM := Lib.hid (qM.out.below hb)
 replace B9 := Lib.hid (B9.out.below hb)
 replace R10 := Lib.hid (R10.out.below hb)
 replace V11 := Lib.hid (V11.out.below hb)
 replace V13 := Lib.hid (V13.out.below hb)
 replace rE := Lib.hid (rE.out.below hb)
 replace rM := Lib.hid (rM.out.below hb)
 replace B17 := Lib.hid (B17.out.below hb)
 replace R18 := Lib.hid (R18.out.below hb)
 replace HB := Lib.hid (HB.out.trans (hb.mono HB.out.size))
 replace HL := Lib.hid (HL.out.below hb)
 clear hb
 go_wp2_with fail
 have hb := ((Below.refl w12.heap.size w12).alloc (by simp) (.cells #[.int .i64 bg2.seq, .slice sa 1 sc, .slice sb 2 sd, .int .i64 bg2.l1, .int .i64 bg2.l2, .int .i64 bg2.l3, .int .i64 bg2.l4, .int .i64 bg2.l5] 27))
 have B19 : Hid (BC (w12.alloc (.cells #[.int .i64 bg2.seq, .slice sa 1 sc, .slice sb 2 sd, .int .i64 bg2.l1, .int .i64 bg2.l2, .int .i64 bg2.l3, .int .i64 bg2.l4, .int .i64 bg2.l5] 27)) (w12.heap.size) bg2 (.slice sa 1 sc) (.slice sb 2 sd)) := Lib.hid (by exact (BC.new w12 bg2 _ _))
 replace D1 := Lib.hid (D1.out.below hb)
 replace D3 := Lib.hid (D3.out.below hb)
 replace D5 := Lib.hid (D5.out.below hb)
 replace pE := Lib.hid (pE.out.below hb)
 replace pM := Lib.hid (pM.out.below hb)
 replace B7 := Lib.hid (B7.out.below hb)
 replace R8 := Lib.hid (R8.out.below hb)
 replace qE := Lib.hid (qE.out.below hb)
 replace qM := Lib.hid (qM.out.below hb)
 replace B9 := Lib.hid (B9.out.below hb)
 replace R10 := Lib.hid (R10.out.below hb)
 replace V11 := Lib.hid (V11.out.below hb)
 replace V13 := Lib.hid (V13.out.below hb)
 replace rE := Lib.hid (rE.out.below hb)
 replace rM := Lib.hid (rM.out.below hb)
 replace B17 := Lib.hid (B17.out.below hb)
 replace R18 := Lib.hid (R18.out.below hb)
 replace sE := Lib.hid (sE.out.below hb)
 replace sM := Lib.hid (sM.out.below hb)
 replace HB := Lib.hid (HB.out.trans (hb.mono HB.out.size))
 replace HL := Lib.hid (HL.out.below hb)
 clear hb
 generalize (w12.alloc (.cells #[.int .i64 bg2.seq, .slice sa 1 sc, .slice sb 2 sd, .int .i64 bg2.l1, .int .i64 bg2.l2, .int .i64 bg2.l3, .int .i64 bg2.l4, .int .i64 bg2.l5] 27)) = W12 at *
 refine (begun1_p _ HL.out).mono ?_
 rintro _ w13 ⟨rfl, hb⟩
 replace D1 := Lib.hid (D1.out.below hb)
 replace D3 := Lib.hid (D3.out.below hb)
 replace D5 := Lib.hid (D5.out.below hb)
 replace pE := Lib.hid (pE.out.below hb)
 replace pM := Lib.hid (pM.out.below hb)
 replace B7 := Lib.hid (B7.out.below hb)
 replace R8 := Lib.hid (R8.out.below hb)
 replace qE := Lib.hid (qE.out.below hb)
 replace qM := Lib.hid (qM.out.below hb)
 replace B9 := Lib.hid (B9.out.below hb)
 replace R10 := Lib.hid (R10.out.below hb)
 replace V11 := Lib.hid (V11.out.below hb)
 replace V13 := Lib.hid (V13.out.below hb)
 replace rE := Lib.hid (rE.out.below hb)
 replace rM := Lib.hid (rM.out.below hb)
 replace B17 := Lib.hid (B17.out.below hb)
 replace R18 := Lib.hid (R18.out.below hb)
 replace sE := Lib.hid (sE.out.below hb)
 replace sM := Lib.hid (sM.out.below hb)
 replace B19 := Lib.hid (B19.out.below hb)
 replace HB := Lib.hid (HB.out.trans (hb.mono HB.out.size))
 replace HL := Lib.hid (HL.out.below hb)
 clear hb
 go_wp2_with fail
 refine (hk1.out _).mono ?_
 rintro _ w14 ⟨rfl, hb⟩
 replace D1 := Lib.hid (D1.out.below hb)
 replace D3 := Lib.hid (D3.out.below hb)
 replace D5 := Lib.hid (D5.out.below hb)
 replace pE := Lib.hid (pE.out.below hb)
 replace pM := Lib.hid (pM.out.below hb)
 replace B7 := Lib.hid (B7.out.below hb)
 replace R8 := Lib.hid (R8.out.below hb)
 replace qE := Lib.hid (qE.out.below hb)
 replace qM := Lib.hid (qM.out.below hb)
 replace B9 := Lib.hid (B9.out.below hb)
 replace R10 := Lib.hid (R10.out.below hb)
 replace V11 := Lib.hid (V11.out.below hb)
 replace V13 := Lib.hid (V13.out.below hb)
 replace rE := Lib.hid (rE.out.below hb)
 replace rM := Lib.hid (rM.out.below hb)
 replace B17 := Lib.hid (B17.out.below hb)
 replace R18 := Lib.hid (R18.out.below hb)
 replace sE := Lib.hid (sE.out.below hb)
 replace sM := Lib.hid (sM.out.below hb)
 replace B19 := Lib.hid (B19.out.below hb)
 replace HB := Lib.hid (HB.out.trans (hb.mono HB.out.size))
 replace HL := Lib.hid (HL.out.below hb)
 clear hb
 go_wp2_with fail
 refine (hk2.out _).mono ?_
 rintro _ w15 ⟨rfl, hb⟩
 replace D1 := Lib.hid (D1.out.below hb)
 replace D3 := Lib.hid (D3.out.below hb)
 replace D5 := Lib.hid (D5.out.below hb)
 replace pE := Lib.hid (pE.out.below hb)
 replace pM := Lib.hid (pM.out.below hb)
 replace B7 := Lib.hid (B7.out.below hb)
 replace R8 := Lib.hid (R8.out.below hb)
 replace qE := Lib.hid (qE.out.below hb)
 replace qM := Lib.hid (qM.out.below hb)
 replace B9 := Lib.hid (B9.out.below hb)
 replace R10 := Lib.hid (R10.out.below hb)
 replace V11 := Lib.hid (V11.out.below hb)
 replace V13 := Lib.hid (V13.out.below hb)
 replace rE := Lib.hid (rE.out.below hb)
 replace rM := Lib.hid (rM.out.below hb)
 replace B17 := Lib.hid (B17.out.below hb)
 replace R18 := Lib.hid (R18.out.below hb)
 replace sE := Lib.hid (sE.out.below hb)
 replace sM := Lib.hid (sM.out.below hb)
 replace B19 := Lib.hid (B19.out.below hb)
 replace HB := Lib.hid (HB.out.trans (hb.mono HB.out.size))
 replace HL := Lib.hid (HL.out.below hb)
 clear hb
 obtain ⟨D10, D11, D12, D13, D14, D15, D16, D17⟩ := D1.out.cells
 have D1l := D1.out.lt
 go_wp2_with fail
 clear D10 D11 D12 D13 D14 D15 D16 D17 D1l
 refine (HMD.out _ HL.out).mono ?_
 rintro _ w16 ⟨rfl, hb⟩
 replace D1 := Lib.hid (D1.out.below hb)
 replace D3 := Lib.hid (D3.out.below hb)
 replace D5 := Lib.hid (D5.out.below hb)
 replace pE := Lib.hid (pE.out.below hb)
 replace pM := Lib.hid (pM.out.below hb)
 replace B7 := Lib.hid (B7.out.below hb)
 replace R8 := Lib.hid (R8.out.below hb)
 replace qE := Lib.hid (qE.out.below hb)
 replace qM := Lib.hid (qM.out.below hb)
 replace B9 := Lib.hid (B9.out.below hb)
 replace R10 := Lib.hid (R10.out.below hb)
 replace V11 := Lib.hid (V11.out.below hb)
 replace V13 := Lib.hid (V13.out.below hb)
 replace rE := Lib.hid (rE.out.below hb)
 replace rM := Lib.hid (rM.out.below hb)
 replace B17 := Lib.hid (B17.out.below hb)
 replace R18 := Lib.hid (R18.out.below hb)
 replace sE := Lib.hid (sE.out.below hb)
 replace sM := Lib.hid (sM.out.below hb)
 replace B19 := Lib.hid (B19.out.below hb)
 replace HB := Lib.hid (HB.out.trans (hb.mono HB.out.size))
 replace HL := Lib.hid (HL.out.below hb)
 clear hb
 go_wp2_with fail
 refine (HMZ.out _ HL.out).mono ?_
 rintro _ w17 ⟨rfl, hb⟩
 replace D1 := Lib.hid (D1.out.below hb)
 replace D3 := Lib.hid (D3.out.below hb)
 replace D5 := Lib.hid (D5.out.below hb)
 replace pE := Lib.hid (pE.out.below hb)
 replace pM := Lib.hid (pM.out.below hb)
 replace B7 := Lib.hid (B7.out.below hb)
 replace R8 := Lib.hid (R8.out.below hb)
 replace qE := Lib.hid (qE.out.below hb)
 replace qM := Lib.hid (qM.out.below hb)
 replace B9 := Lib.hid (B9.out.below hb)
 replace R10 := Lib.hid (R10.out.below hb)
 replace V11 := Lib.hid (V11.out.below hb)
 replace V13 := Lib.hid (V13.out.below hb)
 replace rE := Lib.hid (rE.out.below hb)
 replace rM := Lib.hid (rM.out.below hb)
 replace B17 := Lib.hid (B17.out.below hb)
 replace R18 := Lib.hid (R18.out.below hb)
 replace sE := Lib.hid (sE.out.below hb)
 replace sM := Lib.hid (sM.out.below hb)
 replace B19 := Lib.hid (B19.out.below hb)
 replace HB := Lib.hid (HB.out.trans (hb.mono HB.out.size))
 replace HL := Lib.hid (HL.out.below hb)
 clear hb
 go_wp2_with fail
 refine (hh3.out _).mono ?_
 rintro _ w18 ⟨rfl, hb⟩
 replace D1 := Lib.hid (D1.out.below hb)
 replace D3 := Lib.hid (D3.out.below hb)
 replace D5 := Lib.hid (D5.out.below hb)
 replace pE := Lib.hid (pE.out.below hb)
 replace pM := Lib.hid (pM.out.below hb)
 replace B7 := Lib.hid (B7.out.below hb)
 replace R8 := Lib.hid (R8.out.below hb)
 replace qE := Lib.hid (qE.out.below hb)
 replace qM := Lib.hid (qM.out.below hb)
 replace B9 := Lib.hid (B9.out.below hb)
 replace R10 := Lib.hid (R10.out.below hb)
 replace V11 := Lib.hid (V11.out.below hb)
 replace V13 := Lib.hid (V13.out.below hb)
 replace rE := Lib.hid (rE.out.below hb)
 replace rM := Lib.hid (rM.out.below hb)
 replace B17 := Lib.hid (B17.out.below hb)
 replace R18 := Lib.hid (R18.out.below hb)
 replace sE := Lib.hid (sE.out.below hb)
 replace sM := Lib.hid (sM.out.below hb)
 replace B19 := Lib.hid (B19.out.below hb)
 replace HB := Lib.hid (HB.out.trans (hb.mono HB.out.size))
 replace HL := Lib.hid (HL.out.below hb)
 clear hb
 go_wp2_with fail
 refine (hm2.out _).mono ?_
 rintro _ w19 ⟨rfl, hb⟩
 replace D1 := Lib.hid (D1.out.below hb)
 replace D3 := Lib.hid (D3.out.below hb)
 replace D5 := Lib.hid (D5.out.below hb)
 replace pE := Lib.hid (pE.out.below hb)
 replace pM := Lib.hid (pM.out.below hb)
 replace B7 := Lib.hid (B7.out.below hb)
 replace R8 := Lib.hid (R8.out.below hb)
 replace qE := Lib.hid (qE.out.below hb)
 replace qM := Lib.hid (qM.out.below hb)
 replace B9 := Lib.hid (B9.out.below hb)
 replace R10 := Lib.hid (R10.out.below hb)
 replace V11 := Lib.hid (V11.out.below hb)
 replace V13 := Lib.hid (V13.out.below hb)
 replace rE := Lib.hid (rE.out.below hb)
 replace rM := Lib.hid (rM.out.below hb)
 replace B17 := Lib.hid (B17.out.below hb)
 replace R18 := Lib.hid (R18.out.below hb)
 replace sE := Lib.hid (sE.out.below hb)
 replace sM := Lib.hid (sM.out.below hb)
 replace B19 := Lib.hid (B19.out.below hb)
 replace HB := Lib.hid (HB.out.trans (hb.mono HB.out.size))
 replace HL := Lib.hid (HL.out.below hb)
 clear hb
 have hsq : (bg3.seq == 3) = true := rfl
 obtain ⟨D30, D31, D32, D33, D34, D35, D36, D37⟩ := D3.out.cells
 have D3l := D3.out.lt
 obtain ⟨D10, D11, D12, D13, D14, D15, D16, D17⟩ := D1.out.cells
 have D1l := D1.out.lt
 obtain ⟨R80, R81, _, _⟩ := R8.out.facts
 dsimp only at R80 R81
 have R8l := R8.out.lt
 obtain ⟨R100, R101, _, _⟩ := R10.out.facts
 dsimp only at R100 R101
 have R10l := R10.out.lt
 have V112 := (block_facts V11.out).2.2.2.2 2 _ rfl
 obtain ⟨B170, B171, B172, B173, B174, B175, B176, B177⟩ := B17.out.cells
 have B17l := B17.out.lt
 obtain ⟨R180, R181, _, _⟩ := R18.out.facts
 dsimp only at R180 R181
 have R18l := R18.out.lt
 obtain ⟨B190, B191, B192, B193, B194, B195, B196, B197⟩ := B19.out.cells
 have B19l := B19.out.lt
 obtain ⟨B90, B91, B92, B93, B94, B95, B96, B97⟩ := B9.out.cells
 have B9l := B9.out.lt
 go_wp2_with fail
 clear D30 D31 D32 D33 D34 D35 D36 D37 D3l D10 D11 D12 D13 D14 D15 D16 D17 D1l R80 R81 R8l R100 R101 R10l V112 B170 B171 B172 B173 B174 B175 B176 B177 B17l R180 R181 R18l B190 B191 B192 B193 B194 B195 B196 B197 B19l B90 B91 B92 B93 B94 B95 B96 B97 B9l
 refine (HEQ.out _ _ _ _ _ (bat_own sE.out sM.out HS2.out.1 HS2.out.2.1 HS2.out.2.2) (bat_own qE.out qM.out HS2.out.1 HS2.out.2.1 HS2.out.2.2)).mono ?_
 rintro _ w20 ⟨rfl, hb⟩
 replace D1 := Lib.hid (D1.out.below hb)
 replace D3 := Lib.hid (D3.out.below hb)
 replace D5 := Lib.hid (D5.out.below hb)
 replace pE := Lib.hid (pE.out.below hb)
 replace pM := Lib.hid (pM.out.below hb)
 replace B7 := Lib.hid (B7.out.below hb)
 replace R8 := Lib.hid (R8.out.below hb)
 replace qE := Lib.hid (qE.out.below hb)
 replace qM := Lib.hid (qM.out.below hb)
 replace B9 := Lib.hid (B9.out.below hb)
 replace R10 := Lib.hid (R10.out.below hb)
 replace V11 := Lib.hid (V11.out.below hb)
 replace V13 := Lib.hid (V13.out.below hb)
 replace rE := Lib.hid (rE.out.below hb)
 replace rM := Lib.hid (rM.out.below hb)
 replace B17 := Lib.hid (B17.out.below hb)
 replace R18 := Lib.hid (R18.out.below hb)
 replace sE := Lib.hid (sE.out.below hb)
 replace sM := Lib.hid (sM.out.below hb)
 replace B19 := Lib.hid (B19.out.below hb)
 replace HB := Lib.hid (HB.out.trans (hb.mono HB.out.size))
 replace HL := Lib.hid (HL.out.below hb)
 clear hb
 obtain ⟨g, og, ga, gm, rfl, k0, k1, hgl, hvs⟩ := qE.out.at.get (j := 0) (x := ⟨⟨#[107]⟩, [(⟨1, false, ⟨#[118]⟩⟩ : Ve), ⟨2, true, ⟨#[]⟩⟩]⟩) rfl
 dsimp only at k0 k1 hvs
 have k2 : w20.cell? ⟨g, og, none⟩ = some (.string ⟨#[107]⟩) := by simpa using k0
 have k3 : w20.cell? ⟨g, og + 1, none⟩ = some (.slice ga 2 gm) := by simpa using k1
 have HVS := Lib.hid (show VsAt w20 (.slice ga 2 gm) [(⟨1, false, ⟨#[118]⟩⟩ : Ve), ⟨2, true, ⟨#[]⟩⟩] from hvs)
 have HK3 : Hid (HCell w20 g (og + 1) (.slice ga 2 gm)) := Lib.hid ⟨hgl, k3⟩
 clear k0 k1 hvs
 obtain ⟨B90, B91, B92, B93, B94, B95, B96, B97⟩ := B9.out.cells
 have B9l := B9.out.lt
 go_wp2_with fail
 clear B90 B91 B92 B93 B94 B95 B96 B97 B9l
 clear k2 k3 hgl
 refine (HTM.out _ _ _ HVS.out).mono ?_
 rintro _ w21 ⟨rfl, hb⟩
 replace D1 := Lib.hid (D1.out.below hb)
 replace D3 := Lib.hid (D3.out.below hb)
 replace D5 := Lib.hid (D5.out.below hb)
 replace pE := Lib.hid (pE.out.below hb)
 replace pM := Lib.hid (pM.out.below hb)
 replace B7 := Lib.hid (B7.out.below hb)
 replace R8 := Lib.hid (R8.out.below hb)
 replace qE := Lib.hid (qE.out.below hb)
 replace qM := Lib.hid (qM.out.below hb)
 replace B9 := Lib.hid (B9.out.below hb)
 replace R10 := Lib.hid (R10.out.below hb)
 replace V11 := Lib.hid (V11.out.below hb)
 replace V13 := Lib.hid (V13.out.below hb)
 replace rE := Lib.hid (rE.out.below hb)
 replace rM := Lib.hid (rM.out.below hb)
 replace B17 := Lib.hid (B17.out.below hb)
 replace R18 := Lib.hid (R18.out.below hb)
 replace sE := Lib.hid (sE.out.below hb)
 replace sM := Lib.hid (sM.out.below hb)
 replace B19 := Lib.hid (B19.out.below hb)
 replace HK3 := Lib.hid (HK3.out.below hb)
 replace HB := Lib.hid (HB.out.trans (hb.mono HB.out.size))
 replace HL := Lib.hid (HL.out.below hb)
 clear hb
 obtain ⟨hgl, k3⟩ := HK3.out
 obtain ⟨B90, B91, B92, B93, B94, B95, B96, B97⟩ := B9.out.cells
 have B9l := B9.out.lt
 go_wp2_with fail
 clear B90 B91 B92 B93 B94 B95 B96 B97 B9l
 clear k3 hgl
 refine (HMB.out _ _ _ (bat_own qE.out qM.out HS2.out.1 HS2.out.2.1 HS2.out.2.2)).mono ?_
 rintro _ w22 ⟨rfl, hb⟩
 replace D1 := Lib.hid (D1.out.below hb)
 replace D3 := Lib.hid (D3.out.below hb)
 replace D5 := Lib.hid (D5.out.below hb)
 replace pE := Lib.hid (pE.out.below hb)
 replace pM := Lib.hid (pM.out.below hb)
 replace B7 := Lib.hid (B7.out.below hb)
 replace R8 := Lib.hid (R8.out.below hb)
 replace qE := Lib.hid (qE.out.below hb)
 replace qM := Lib.hid (qM.out.below hb)
 replace B9 := Lib.hid (B9.out.below hb)
 replace R10 := Lib.hid (R10.out.below hb)
 replace V11 := Lib.hid (V11.out.below hb)
 replace V13 := Lib.hid (V13.out.below hb)
 replace rE := Lib.hid (rE.out.below hb)
 replace rM := Lib.hid (rM.out.below hb)
 replace B17 := Lib.hid (B17.out.below hb)
 replace R18 := Lib.hid (R18.out.below hb)
 replace sE := Lib.hid (sE.out.below hb)
 replace sM := Lib.hid (sM.out.below hb)
 replace B19 := Lib.hid (B19.out.below hb)
 replace HK3 := Lib.hid (HK3.out.below hb)
 replace HB := Lib.hid (HB.out.trans (hb.mono HB.out.size))
 replace HL := Lib.hid (HL.out.below hb)
 clear hb
 go_wp2_with fail
 go_ret
 exact ⟨rfl, HB.out⟩
end Go.Proofs.YtlpgphiccjkenaaGreatDoor
