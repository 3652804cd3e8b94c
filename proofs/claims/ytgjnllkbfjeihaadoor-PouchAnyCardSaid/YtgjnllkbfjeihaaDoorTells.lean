/-
  tells answers true, whatever the text.
-/
import Derived.Test.YtgjnllkbfjeihaaDoorEqT
import Derived.Test.YtgjnllkbfjeihaaDoorInv
import Derived.Test.YtgjnllkbfjeihaaDoorAll
import Derived.Test.YtgjnllkbfjeihaaDoorBack
import Derived.Lib.QuietBelow
namespace Go.Proofs.YtgjnllkbfjeihaaDoor
open Go.RowKit

theorem allR_err {t : ByteArray} {e : Nat} (h : getR t = .error e) : allR t = .error 1 := by
  unfold allR
  rw [h]

theorem allR_ok {t : ByteArray} {x : G} (h : getR t = .ok x) : allR t = if x.b = t.size then .ok x else .error 1 := by
  unfold allR
  rw [h]

set_option maxRecDepth 100000 in
set_option maxHeartbeats 4000000 in
theorem tells_p (t : ByteArray) (w : World) (hs : t.size ≤ 9223372036854775807) (hlib : LibAt w) :
    Calls Tryd.prog 9 #[.string t] w fun e w' => e = .returned (.bool true) ∧ Below w.heap.size w w' := by
  have HG := Lib.hid (Get_p t w hs hlib)
  have HA := Lib.hid (fun w1 h => All_p t w1 hs h)
  have HL := Lib.hid hlib
  clear hlib
  cases hr : getR t with
  | error er =>
    rw [hr] at HG
    rw [allR_err hr] at HA
    unfold GetV at HG
    unfold AllV at HA
    have he := getP_err 6 t 6000 er hr
    have HZ := Lib.hid (fun w1 => eq_like 0 0 ⟨#[]⟩ .nil none none 0 0 w1 (by decide) (.inl rfl) (.inl rfl))
    have hb0 : ((er : Int) == 0) = false := by rw [beq_eq_false_iff_ne]; omega
    have hbn : ((er : Int) != 0) = true := by rw [bne_iff_ne]; omega
    clear hr
    go_enter Tryd.func9, Tryd.ntmps9
    go_wp2_with fail
    refine HG.out.mono ?_
    rintro _ w1 ⟨hb1, rfl⟩
    have HB1 := Lib.hid (hb1.alloc hb1.size (.cells #[.int .i64 0, .int .i64 0, .string ⟨#[]⟩, .slice none 0 0] 30))
    have hV : ∀ ty, CelV (w1.alloc (.cells #[.int .i64 0, .int .i64 0, .string ⟨#[]⟩, .slice none 0 0] ty)) w1.heap.size 0 0 ⟨#[]⟩ none 0 0 := by
      intro ty
      refine ⟨?_, ?_, ?_, ?_⟩ <;> go_simp
    have HV := Lib.hid (hV 30)
    clear hb1 hV
    go_wp2_with fail
    refine (HA.out _ (HL.out.below HB1.out)).mono ?_
    rintro _ w2 ⟨hb2, rfl⟩
    have HB2 := Lib.hid (HB1.out.trans (hb2.mono HB1.out.size))
    obtain ⟨c0, c1, c2, c3⟩ := HV.out.kept (hb2.block w1.heap.size (by simp))
    have hwl : w1.heap.size < w2.heap.size := World.block_lt_of_cell? w2 _ c0
    clear hb2
    rcases he with rfl | rfl
    · go_wp2_with fail
      refine (HZ.out _).mono ?_
      rintro _ w3 ⟨rfl, hb3⟩
      have HB3 := Lib.hid ((HB2.out.alloc HB2.out.size (.cells #[.int .i64 0, .int .i64 0, .string ⟨#[]⟩, .slice none 0 0] 30)).trans (hb3.mono (by have := HB2.out.size; simp; omega)))
      clear hb3
      go_wp2_with fail
      go_ret
      exact ⟨rfl, HB3.out⟩
    · go_wp2_with fail
      refine (HZ.out _).mono ?_
      rintro _ w3 ⟨rfl, hb3⟩
      have HB3 := Lib.hid ((HB2.out.alloc HB2.out.size (.cells #[.int .i64 0, .int .i64 0, .string ⟨#[]⟩, .slice none 0 0] 30)).trans (hb3.mono (by have := HB2.out.size; simp; omega)))
      clear hb3
      go_wp2_with fail
      go_ret
      exact ⟨rfl, HB3.out⟩
  | ok x =>
    rw [hr] at HG
    rw [allR_ok hr] at HA
    unfold GetV at HG
    obtain ⟨hm, hp, hb1, hb2, hn, hwf⟩ := getR_inv hr
    have HM := Lib.hid (And.intro hm (And.intro hp (And.intro hn hwf)))
    have hbi : (x.b : Int) ≤ (t.size : Int) := by omega
    have hb0 : (0 : Int) < (x.b : Int) := by omega
    have hb0n : 0 < x.b := hb1
    have hbin : x.b ≤ t.size := hb2
    clear hb1 hb2
    clear hr hm hp hn hwf
    go_enter Tryd.func9, Tryd.ntmps9
    go_wp2_with fail
    refine HG.out.mono ?_
    rintro _ w1 ⟨hb1, ad, cap, rfl, hg⟩
    have HB1 := Lib.hid (hb1.alloc hb1.size (.cells #[.int .i64 x.k, .int .i64 x.n, .string x.s, .slice ad x.l.len cap] 30))
    have HR1 := Lib.hid (hg.repS.below ((Below.refl w1.heap.size w1).alloc (Nat.le_refl _) (.cells #[.int .i64 x.k, .int .i64 x.n, .string x.s, .slice ad x.l.len cap] 30)))
    have hV : ∀ ty, CelV (w1.alloc (.cells #[.int .i64 x.k, .int .i64 x.n, .string x.s, .slice ad x.l.len cap] ty)) w1.heap.size x.k x.n x.s ad x.l.len cap := by
      intro ty
      refine ⟨?_, ?_, ?_, ?_⟩ <;> go_simp
    have HV := Lib.hid (hV 30)
    clear hb1 hg hV
    go_wp2_with fail
    refine (HA.out _ (HL.out.below HB1.out)).mono ?_
    intro eA w2 hA
    by_cases hsz : x.b = t.size
    · rw [if_pos hsz] at hA
      unfold AllV at hA
      obtain ⟨hb2, ad2, cap2, rfl, hg2⟩ := hA
      have HB2 := Lib.hid (HB1.out.trans (hb2.mono HB1.out.size))
      have HR2 := Lib.hid (HR1.out.below hb2)
      obtain ⟨c0, c1, c2, c3⟩ := HV.out.kept (hb2.block w1.heap.size (by simp))
      have hbe : ((x.b : Int) == (t.size : Int)) = true := by rw [beq_iff_eq]; omega
      clear hb2 hg2 hsz
      have hwl : w1.heap.size < w2.heap.size := World.block_lt_of_cell? w2 _ c0
      go_wp2_with fail
      have HW := Lib.hid (HB2.out.alloc HB2.out.size (.cells #[.int .i64 x.k, .int .i64 x.n, .string x.s, .slice ad2 x.l.len cap2] 30))
      have hRW := HR2.out.below ((Below.refl w2.heap.size w2).alloc (Nat.le_refl _) (.cells #[.int .i64 x.k, .int .i64 x.n, .string x.s, .slice ad2 x.l.len cap2] 30))
      have d0 := cell_kept ((Below.refl w2.heap.size w2).alloc (Nat.le_refl _) (.cells #[.int .i64 x.k, .int .i64 x.n, .string x.s, .slice ad2 x.l.len cap2] 30)) (Nat.le_refl _) c0
      have d1 := cell_kept ((Below.refl w2.heap.size w2).alloc (Nat.le_refl _) (.cells #[.int .i64 x.k, .int .i64 x.n, .string x.s, .slice ad2 x.l.len cap2] 30)) (Nat.le_refl _) c1
      have d2 := cell_kept ((Below.refl w2.heap.size w2).alloc (Nat.le_refl _) (.cells #[.int .i64 x.k, .int .i64 x.n, .string x.s, .slice ad2 x.l.len cap2] 30)) (Nat.le_refl _) c2
      have d3 := cell_kept ((Below.refl w2.heap.size w2).alloc (Nat.le_refl _) (.cells #[.int .i64 x.k, .int .i64 x.n, .string x.s, .slice ad2 x.l.len cap2] 30)) (Nat.le_refl _) c3
      clear c0 c1 c2 c3 hwl
      generalize w2.alloc (.cells #[.int .i64 x.k, .int .i64 x.n, .string x.s, .slice ad2 x.l.len cap2] 30) = W at *
      have q0 := cell_regrown d0
      have q1 := cell_regrown d1
      have q2 := cell_regrown d2
      have q3 := cell_regrown d3
      have y1 : Hid (∀ d os, Calls Tryd.prog 18 #[.agg #[.int .i64 x.k, .int .i64 x.n, .string x.s, .slice ad x.l.len cap]] (Go.Sort.grow (redrawn W d) os) fun e w'' => e = .returned (.bool true) ∧ ∃ p : Regrown, w'' = Go.Sort.grow (redrawn W p.d) p.os) := Lib.hid (fun d os => Calls.regrown_of (w := W) (d := d) (os := os) (by
        have := vmay_p x.k x.n x.s x.l ad cap (Go.Sort.grow (redrawn W d) os) (hRW.below (below_regrown W d os))
        rwa [HM.out.1] at this))
      have y2 : Hid (∀ d os, Calls Tryd.prog 7 #[.agg #[.int .i64 x.k, .int .i64 x.n, .string x.s, .slice ad x.l.len cap]] (Go.Sort.grow (redrawn W d) os) fun e w'' => e = .returned (.string (t.extract 0 x.b)) ∧ ∃ p : Regrown, w'' = Go.Sort.grow (redrawn W p.d) p.os) := Lib.hid (fun d os => Calls.regrown_of (w := W) (d := d) (os := os) (by
        have := Put_p x.k x.n x.s x.l ad cap (Go.Sort.grow (redrawn W d) os) ((HL.out.below HW.out).below (below_regrown W d os)).2.2.2 HM.out.2.2.1 HM.out.2.2.2 (hRW.below (below_regrown W d os))
        rwa [HM.out.2.1] at this))
      clear hRW d0 d1 d2 d3
      refine wp_region_quiet_below (by kernel_rfl) (by kernel_rfl) ?_
      repeat (quiet_step (first | (go_at_call 18; exact y1.out _ _) | (go_at_call 7; exact y2.out _ _)))
      refine wpQuiet_nil ?_
      intro _ hw'
      obtain ⟨⟨dq, osq⟩, hw''⟩ := hw'
      subst hw''
      have HE := Lib.hid (HW.out.trans ((below_regrown W dq osq).mono HW.out.size))
      clear q0 q1 q2 q3 y1 y2
      generalize Go.Sort.grow (redrawn W dq) osq = W3 at *
      go_wp2_with fail
      go_ret
      exact ⟨rfl, HE.out⟩
    · rw [if_neg hsz] at hA
      unfold AllV at hA
      obtain ⟨hb2, rfl⟩ := hA
      have HB2 := Lib.hid (HB1.out.trans (hb2.mono HB1.out.size))
      have HR2 := Lib.hid (HR1.out.below hb2)
      obtain ⟨c0, c1, c2, c3⟩ := HV.out.kept (hb2.block w1.heap.size (by simp))
      have hbe : ((x.b : Int) == (t.size : Int)) = false := by rw [beq_eq_false_iff_ne]; omega
      clear hb2 hsz
      have hwl : w1.heap.size < w2.heap.size := World.block_lt_of_cell? w2 _ c0
      go_wp2_with fail
      have HW := Lib.hid (HB2.out.alloc HB2.out.size (.cells #[.int .i64 0, .int .i64 0, .string ⟨#[]⟩, .slice none 0 0] 30))
      have hRW := HR2.out.below ((Below.refl w2.heap.size w2).alloc (Nat.le_refl _) (.cells #[.int .i64 0, .int .i64 0, .string ⟨#[]⟩, .slice none 0 0] 30))
      have d0 := cell_kept ((Below.refl w2.heap.size w2).alloc (Nat.le_refl _) (.cells #[.int .i64 0, .int .i64 0, .string ⟨#[]⟩, .slice none 0 0] 30)) (Nat.le_refl _) c0
      have d1 := cell_kept ((Below.refl w2.heap.size w2).alloc (Nat.le_refl _) (.cells #[.int .i64 0, .int .i64 0, .string ⟨#[]⟩, .slice none 0 0] 30)) (Nat.le_refl _) c1
      have d2 := cell_kept ((Below.refl w2.heap.size w2).alloc (Nat.le_refl _) (.cells #[.int .i64 0, .int .i64 0, .string ⟨#[]⟩, .slice none 0 0] 30)) (Nat.le_refl _) c2
      have d3 := cell_kept ((Below.refl w2.heap.size w2).alloc (Nat.le_refl _) (.cells #[.int .i64 0, .int .i64 0, .string ⟨#[]⟩, .slice none 0 0] 30)) (Nat.le_refl _) c3
      clear c0 c1 c2 c3 hwl
      generalize w2.alloc (.cells #[.int .i64 0, .int .i64 0, .string ⟨#[]⟩, .slice none 0 0] 30) = W at *
      have q0 := cell_regrown d0
      have q1 := cell_regrown d1
      have q2 := cell_regrown d2
      have q3 := cell_regrown d3
      have y1 : Hid (∀ d os, Calls Tryd.prog 18 #[.agg #[.int .i64 x.k, .int .i64 x.n, .string x.s, .slice ad x.l.len cap]] (Go.Sort.grow (redrawn W d) os) fun e w'' => e = .returned (.bool true) ∧ ∃ p : Regrown, w'' = Go.Sort.grow (redrawn W p.d) p.os) := Lib.hid (fun d os => Calls.regrown_of (w := W) (d := d) (os := os) (by
        have := vmay_p x.k x.n x.s x.l ad cap (Go.Sort.grow (redrawn W d) os) (hRW.below (below_regrown W d os))
        rwa [HM.out.1] at this))
      have y2 : Hid (∀ d os, Calls Tryd.prog 7 #[.agg #[.int .i64 x.k, .int .i64 x.n, .string x.s, .slice ad x.l.len cap]] (Go.Sort.grow (redrawn W d) os) fun e w'' => e = .returned (.string (t.extract 0 x.b)) ∧ ∃ p : Regrown, w'' = Go.Sort.grow (redrawn W p.d) p.os) := Lib.hid (fun d os => Calls.regrown_of (w := W) (d := d) (os := os) (by
        have := Put_p x.k x.n x.s x.l ad cap (Go.Sort.grow (redrawn W d) os) ((HL.out.below HW.out).below (below_regrown W d os)).2.2.2 HM.out.2.2.1 HM.out.2.2.2 (hRW.below (below_regrown W d os))
        rwa [HM.out.2.1] at this))
      clear hRW d0 d1 d2 d3
      refine wp_region_quiet_below (by kernel_rfl) (by kernel_rfl) ?_
      repeat (quiet_step (first | (go_at_call 18; exact y1.out _ _) | (go_at_call 7; exact y2.out _ _)))
      refine wpQuiet_nil ?_
      intro _ hw'
      obtain ⟨⟨dq, osq⟩, hw''⟩ := hw'
      subst hw''
      have HE := Lib.hid (HW.out.trans ((below_regrown W dq osq).mono HW.out.size))
      clear q0 q1 q2 q3 y1 y2
      generalize Go.Sort.grow (redrawn W dq) osq = W3 at *
      go_wp2_with fail
      go_ret
      exact ⟨rfl, HE.out⟩

end Go.Proofs.YtgjnllkbfjeihaaDoor
