/-
  RosterTurns answers true.
-/
import Derived.Test.YtlemkpcpeamojaaRosM
namespace Go.Proofs.Ytlemkpcpeamojaa
open Go.RowKit

theorem isat_one (w : World) (x : Int) : IsAt (w.alloc (.cells #[.int .i64 x] 3)) (.slice (some ⟨w.heap.size, 0, none⟩) 1 1) [x] :=
  .inr ⟨w.heap.size, 0, 1, rfl, by simp, by unfold maxLen; omega, by simp, fun j z hz => by
    match j, hz with
    | 0, hz => simp at hz; subst hz; go_simp
    | j + 1, hz => simp at hz⟩

/-- What stands at a round's beginning. -/
structure TR (w W : World) (S : Nat) (r : Ro) (ad : Option Addr) (c : Nat) (i : Nat) : Prop where
  cb : CB W S r ad r.l.length c
  may : mayR r = true
  ep : r.ep ≤ (i : Int) + 1
  b : Below w.heap.size w W
  s : w.heap.size ≤ S
  ne : ∀ j, (Value.slice ad r.l.length c).ownBlock = some j → j ≠ S

theorem IsAt.lt {w : World} {v : Value} {l : List Int} (h : IsAt w v l) : ∀ j, v.ownBlock = some j → j < w.heap.size := by
  intro j hj
  rcases h with ⟨rfl, _⟩ | ⟨g, o, cap, rfl, _, _, h3, _⟩
  · cases hj
  · cases hj
    exact h3

theorem tr_learn {w U : World} {S : Nat} {R : Ro} {a : Option Addr} {c i : Nat} (h : TR w U S R a c i) : TR w (U.setCell ⟨S, 2, none⟩ (.int .i64 0)) S ⟨R.ep, R.l, 0⟩ a c i := by
  refine ⟨⟨rc_set2 h.cb.c 0, h.cb.v.kept (by simp) (fun j hj => Below.heap_setCell _ _ _ _ (by simpa using h.ne j hj))⟩, mayR_learn h.may, h.ep, h.b.setCell (p := ⟨S, 2, none⟩) h.s (.int .i64 0), h.s, h.ne⟩

/-- Another chain in the box. -/
theorem tr_take {w U : World} {S : Nat} {r R : Ro} {a ax : Option Addr} {c cx i : Nat} (h : CB U S r a r.l.length c) (hb : Below w.heap.size w U) (hs : w.heap.size ≤ S) (hx : IsAt U (.slice ax R.l.length cx) R.l) (hne : ∀ j, (Value.slice ax R.l.length cx).ownBlock = some j → j ≠ S) (hm : mayR R = true) (hep : R.ep ≤ (i : Int) + 1) :
    TR w (((U.setCell ⟨S, 0, none⟩ (.int .i64 R.ep)).setCell ⟨S, 1, none⟩ (.slice ax R.l.length cx)).setCell ⟨S, 2, none⟩ (.int .i64 R.nw)) S R ax cx i := by
  have hk : ∀ g, g ≠ S → (((U.setCell ⟨S, 0, none⟩ (.int .i64 R.ep)).setCell ⟨S, 1, none⟩ (.slice ax R.l.length cx)).setCell ⟨S, 2, none⟩ (.int .i64 R.nw)).heap[g]? = U.heap[g]? := fun g hg => by
    rw [Below.heap_setCell _ _ _ _ (by simpa using hg), Below.heap_setCell _ _ _ _ (by simpa using hg), Below.heap_setCell _ _ _ _ (by simpa using hg)]
  refine ⟨⟨rc_put h.c _ _ _ _ _, hx.kept (by simp) (fun j hj => hk j (hne j hj))⟩, hm, hep, ?_, hs, hne⟩
  exact ((hb.setCell (p := ⟨S, 0, none⟩) hs (.int .i64 R.ep)).setCell (p := ⟨S, 1, none⟩) hs (.slice ax R.l.length cx)).setCell (p := ⟨S, 2, none⟩) hs (.int .i64 R.nw)

set_option maxRecDepth 100000 in
set_option maxHeartbeats 32000000 in
theorem rosterTurns_walk (len : Nat) (cs : Nat → Int) (b off cap : Nat) (ad : Option Addr) (len1 : Nat) (cs1 : Nat → Bool) (b1 off1 cap1 : Nat) (ad1 : Option Addr) (len2 : Nat) (cs2 : Nat → Bool) (b2 off2 cap2 : Nat) (ad2 : Option Addr) (w : World)
    (had : 0 < len → ad = some ⟨b, off, none⟩) (hl : len ≤ 9223372036854775807) (hb : 0 < len → b < w.heap.size) (hc : ∀ i, i < len → w.cell? ⟨b, off + i, none⟩ = some (.int .i64 (cs i)))
    (had1 : 0 < len1 → ad1 = some ⟨b1, off1, none⟩) (hl1 : len1 ≤ 9223372036854775807) (hb1 : 0 < len1 → b1 < w.heap.size) (hc1 : ∀ i, i < len1 → w.cell? ⟨b1, off1 + i, none⟩ = some (.bool (cs1 i)))
    (had2 : 0 < len2 → ad2 = some ⟨b2, off2, none⟩) (hl2 : len2 ≤ 9223372036854775807) (hb2 : 0 < len2 → b2 < w.heap.size) (hc2 : ∀ i, i < len2 → w.cell? ⟨b2, off2 + i, none⟩ = some (.bool (cs2 i))) :
    Calls Try.prog 6 #[.slice ad len cap, .slice ad1 len1 cap1, .slice ad2 len2 cap2] w fun r w' => r = .returned (.bool true) ∧ Below w.heap.size w w' := by
  have HA0 : Hid (∀ W i, Below w.heap.size w W → i < len → ad = some ⟨b, off, none⟩ ∧ W.cell? ⟨b, off + i, none⟩ = some (.int .i64 (cs i))) := Lib.hid (fun W i hW hi => ⟨had (by omega), by rw [hW.cell (hb (by omega))]; exact hc i hi⟩)
  have HA1 : Hid (∀ W i, Below w.heap.size w W → i < len1 → ad1 = some ⟨b1, off1, none⟩ ∧ W.cell? ⟨b1, off1 + i, none⟩ = some (.bool (cs1 i))) := Lib.hid (fun W i hW hi => ⟨had1 (by omega), by rw [hW.cell (hb1 (by omega))]; exact hc1 i hi⟩)
  have HA2 : Hid (∀ W i, Below w.heap.size w W → i < len2 → ad2 = some ⟨b2, off2, none⟩ ∧ W.cell? ⟨b2, off2 + i, none⟩ = some (.bool (cs2 i))) := Lib.hid (fun W i hW hi => ⟨had2 (by omega), by rw [hW.cell (hb2 (by omega))]; exact hc2 i hi⟩)
  clear had hb hc had1 hb1 hc1 had2 hb2 hc2
  go_enter Try.func6, Try.ntmps6
  go_wp2_with fail
  refine (begun9_p w).mono ?_
  rintro _ W1 ⟨rfl, hb1⟩
  have hba : Below w.heap.size w ((W1.alloc (.cells #[.int .i64 1] 3)).alloc (.cells #[.int .i64 1, .slice (some ⟨W1.heap.size, 0, none⟩) 1 1, .int .i64 0] 24)) := (hb1.alloc hb1.size _).alloc (by have := hb1.size; simp; omega) _
  have hcb : CB ((W1.alloc (.cells #[.int .i64 1] 3)).alloc (.cells #[.int .i64 1, .slice (some ⟨W1.heap.size, 0, none⟩) 1 1, .int .i64 0] 24)) (W1.heap.size + 1) ⟨1, [1], 0⟩ (some ⟨W1.heap.size, 0, none⟩) 1 1 := by
    have := cb_new (W1.alloc (.cells #[.int .i64 1] 3)) ⟨1, [1], 0⟩ (some ⟨W1.heap.size, 0, none⟩) 1 (isat_one W1 1)
    simpa using this
  have HT : Hid (TR w ((W1.alloc (.cells #[.int .i64 1] 3)).alloc (.cells #[.int .i64 1, .slice (some ⟨W1.heap.size, 0, none⟩) 1 1, .int .i64 0] 24)) (W1.heap.size + 1) ⟨1, [1], 0⟩ (some ⟨W1.heap.size, 0, none⟩) 1 0) := Lib.hid ⟨hcb, by kernel_rfl, by decide, hba, by have := hb1.size; omega, fun j hj => by have : W1.heap.size = j := Option.some.inj hj; omega⟩
  clear hba hcb hb1
  go_wp2_with fail
  generalize (W1.alloc (.cells #[.int .i64 1] 3)).alloc (.cells #[.int .i64 1, .slice (some ⟨W1.heap.size, 0, none⟩) 1 1, .int .i64 0] 24) = W2 at *
  generalize W1.heap.size + 1 = S at *
  go_loopw [9, 10, 11, 12] (fun iv _ _ _ wr => ∃ (i : Nat) (r : Ro) (a : Option Addr) (c : Nat), iv = .int .i64 i ∧ i ≤ 30 ∧ Hid (TR w wr S r a c i)) (fun iv _ _ _ _ => 30 - (intOf iv).toNat)
  case atStart => exact ⟨0, _, _, _, rfl, by omega, HT⟩
  case round =>
    clear HT
    obtain ⟨i, r, a, c, rfl, hi, HR⟩ := hrel
    obtain ⟨⟨p0, p1, p2⟩, _⟩ := HR.out.cb.c
    by_cases hgo : i < len ∧ i < 30
    case neg =>
      have HM := may_p r.ep r.nw _ r.l wr HR.out.cb.v (by have := mayR_len (e := r.ep) (l := r.l) (nw := r.nw) HR.out.may; omega)
      rw [show mayR ⟨r.ep, r.l, r.nw⟩ = true from HR.out.may] at HM
      have HM := Lib.hid HM
      by_cases h1 : i < len
      · have t1 : (i : Int) < (len : Int) := by omega
        have t2 : decide ((i : Int) < 30) = false := decide_eq_false (by omega)
        have t3 : ¬ (i : Int) < 30 := by omega
        clear hgo
        go_wp2_with fail
        refine HM.out.mono ?_
        rintro _ W9 ⟨rfl, hb9⟩
        have HB9 := Lib.hid (HR.out.b.trans (hb9.mono HR.out.b.size))
        clear hb9
        go_wp2_with fail
        go_ret
        exact ⟨rfl, HB9.out⟩
      · have t1 : decide ((i : Int) < (len : Int)) = false := decide_eq_false (by omega)
        have t3 : ¬ (i : Int) < (len : Int) := by omega
        clear hgo
        go_wp2_with fail
        refine HM.out.mono ?_
        rintro _ W9 ⟨rfl, hb9⟩
        have HB9 := Lib.hid (HR.out.b.trans (hb9.mono HR.out.b.size))
        clear hb9
        go_wp2_with fail
        go_ret
        exact ⟨rfl, HB9.out⟩
    have t1 : (i : Int) < (len : Int) := by omega
    have t2 : (i : Int) < 30 := by omega
    obtain ⟨rfl, x0⟩ := HA0.out wr i HR.out.b hgo.1
    have hil : i < len := hgo.1
    obtain ⟨y1, hy1⟩ : ∃ y, (cs i).tmod 5 = y := ⟨_, rfl⟩
    have hyb : -4 ≤ y1 ∧ y1 ≤ 4 := by
      rw [← hy1]
      have g1 := Int.tmod_lt_of_pos (cs i) (show (0 : Int) < 5 by decide)
      have g2 := Int.lt_tmod_of_pos (cs i) (show (0 : Int) < 5 by decide)
      omega
    have hwr : IntKind.i64.wrap (y1 + 5) = y1 + 5 := IntWalk.i64_in _ (by omega)
    obtain ⟨z, hz⟩ : ∃ z, (y1 + 5).tmod 5 = z := ⟨_, rfl⟩
    have hzb : 0 ≤ z ∧ z ≤ 4 := by
      rw [← hz]
      have g1 := Int.tmod_lt_of_pos (y1 + 5) (show (0 : Int) < 5 by decide)
      have g2 := Int.tmod_nonneg (a := y1 + 5) 5 (by omega)
      omega
    obtain ⟨n, hn⟩ : ∃ n, 1 + z = n := ⟨_, rfl⟩
    have hwn : IntKind.i64.wrap (1 + z) = n := by rw [hn]; exact IntWalk.i64_in _ (by omega)
    have HN := Lib.hid (show 1 ≤ n ∧ n ≤ 5 by omega)
    have HLL := Lib.hid (mayR_len (e := r.ep) (l := r.l) (nw := r.nw) HR.out.may)
    have HEP := Lib.hid (show r.ep ≤ 100 by have := HR.out.ep; omega)
    have HPA := Lib.hid (turn_add HR.out.may HEP.out HN.out)
    have HPD := Lib.hid (turn_drop HR.out.may HEP.out HN.out)
    clear hyb hzb hn hgo
    go_wp2_with fail
    clear x0 hy1 hwr hz hwn
    have HDR := drop_p r.ep r.nw n _ r.l wr HR.out.cb.v (by have := HLL.out; omega)
    rw [show (⟨r.ep, r.l, r.nw⟩ : Ro) = r from rfl] at HDR
    refine HDR.mono ?_
    clear HDR
    generalize dropR r n = dr at *
    obtain ⟨⟨ed, ld, nd⟩, okd⟩ := dr
    rintro _ W4 ⟨a4, c4, rfl, ho, hy⟩
    dsimp only at ho HPD ⊢
    obtain ⟨md, hmd⟩ : ∃ m, ld.length = m := ⟨_, rfl⟩
    rw [hmd] at ho ⊢
    have hb4 : Below wr.heap.size wr (W4.alloc (.cells #[.int .i64 ed, .slice a4 md c4, .int .i64 nd] 24)) := hy.alloc hy.size _
    have HR4 : Hid (CB (W4.alloc (.cells #[.int .i64 ed, .slice a4 md c4, .int .i64 nd] 24)) S r a r.l.length c ∧ Below w.heap.size w (W4.alloc (.cells #[.int .i64 ed, .slice a4 md c4, .int .i64 nd] 24))) := Lib.hid ⟨HR.out.cb.below hb4, HR.out.b.trans (hb4.mono HR.out.b.size)⟩
    have HX4 : Hid (RC (W4.alloc (.cells #[.int .i64 ed, .slice a4 md c4, .int .i64 nd] 24)) W4.heap.size ed (.slice a4 md c4) nd ∧ IsAt (W4.alloc (.cells #[.int .i64 ed, .slice a4 md c4, .int .i64 nd] 24)) (.slice a4 md c4) ld) := Lib.hid ⟨RC.new W4 ed a4 md c4 nd _, (ho.below ((Below.refl _ _).alloc (Nat.le_refl _) _)).at⟩
    have HSX : Hid (S < W4.heap.size) := Lib.hid (Nat.lt_of_lt_of_le HR.out.cb.c.lt hy.size)
    have HMD := Lib.hid hmd
    have HND : Hid (∀ j, (Value.slice a4 md c4).ownBlock = some j → j ≠ S) := Lib.hid (fun j hj => by have h1 := (ho.lt hj).1; have h2 := HR.out.cb.c.lt; omega)
    have HRW : Hid (∀ j, (Value.slice a r.l.length c).ownBlock = some j → j < W4.heap.size) := Lib.hid (fun j hj => Nat.lt_of_lt_of_le (HR.out.cb.v.lt j hj) hy.size)
    clear ho hy hb4 hmd p0 p1 p2
    obtain ⟨p, hp⟩ : ∃ p, ixI r.l n = p := ⟨_, rfl⟩
    unfold okD at HPD
    rw [hp] at HPA HPD
    by_cases hA : i < len1
    · have v1 : (i : Int) < (len1 : Int) := by omega
      obtain ⟨rfl, x1⟩ := HA1.out _ i HR4.out.2 hA
      cases hcs1 : cs1 i with
      | true =>
        rw [hcs1] at x1
        obtain ⟨⟨p0, p1, p2⟩, _⟩ := HR4.out.1.c
        go_wp2_with fail
        clear p0 p1 p2 x1
        generalize (W4.alloc (.cells #[.int .i64 ed, .slice a4 md c4, .int .i64 nd] 24)) = V4 at *
        generalize W4.heap.size = S4 at *
        have HAR := add_p r.ep r.nw n _ r.l V4 HR4.out.1.v (by have := HLL.out; omega)
        rw [show (⟨r.ep, r.l, r.nw⟩ : Ro) = r from rfl] at HAR
        refine HAR.mono ?_
        clear HAR HPD
        generalize addR r n = ar at *
        obtain ⟨⟨ea, la, na⟩, oka⟩ := ar
        rintro _ W5 ⟨a5, c5, rfl, ho, hy⟩
        dsimp only at ho HPA ⊢
        obtain ⟨ma, hma⟩ : ∃ m, la.length = m := ⟨_, rfl⟩
        rw [hma] at ho ⊢
        have hkx : ∀ g, g ≠ S4 → ((((W5.setCell ⟨S4, 0, none⟩ (.int .i64 ea)).setCell ⟨S4, 1, none⟩ (.slice a5 ma c5)).setCell ⟨S4, 2, none⟩ (.int .i64 na))).heap[g]? = W5.heap[g]? := fun g hg => by
          rw [Below.heap_setCell _ _ _ _ (by simpa using hg), Below.heap_setCell _ _ _ _ (by simpa using hg), Below.heap_setCell _ _ _ _ (by simpa using hg)]
        have hws4 : w.heap.size ≤ S4 := by have := HSX.out; have := HR.out.s; omega
        have hs4v : S4 < V4.heap.size := HX4.out.1.lt
        have HR5 : Hid (CB ((((W5.setCell ⟨S4, 0, none⟩ (.int .i64 ea)).setCell ⟨S4, 1, none⟩ (.slice a5 ma c5)).setCell ⟨S4, 2, none⟩ (.int .i64 na))) S r a r.l.length c ∧ Below w.heap.size w ((((W5.setCell ⟨S4, 0, none⟩ (.int .i64 ea)).setCell ⟨S4, 1, none⟩ (.slice a5 ma c5)).setCell ⟨S4, 2, none⟩ (.int .i64 na)))) := Lib.hid ⟨⟨(HR4.out.1.c.below hy).kept (hkx _ (by have := HSX.out; omega)), (HR4.out.1.v.below hy).kept (by simp) (fun j hj => hkx j (by have := HRW.out j hj; omega))⟩, (((HR4.out.2.trans (hy.mono HR4.out.2.size)).setCell (p := ⟨S4, 0, none⟩) hws4 (.int .i64 ea)).setCell (p := ⟨S4, 1, none⟩) hws4 (.slice a5 ma c5)).setCell (p := ⟨S4, 2, none⟩) hws4 (.int .i64 na)⟩
        have HX5 : Hid (RC ((((W5.setCell ⟨S4, 0, none⟩ (.int .i64 ea)).setCell ⟨S4, 1, none⟩ (.slice a5 ma c5)).setCell ⟨S4, 2, none⟩ (.int .i64 na))) S4 ea (.slice a5 ma c5) na ∧ IsAt ((((W5.setCell ⟨S4, 0, none⟩ (.int .i64 ea)).setCell ⟨S4, 1, none⟩ (.slice a5 ma c5)).setCell ⟨S4, 2, none⟩ (.int .i64 na))) (.slice a5 ma c5) la) := Lib.hid ⟨rc_put (HX4.out.1.below hy) _ _ _ _ _, (ho.kept (fun j hj => hkx j (by have := (ho.lt hj).1; omega))).at⟩
        have HNE : Hid (∀ j, (Value.slice a5 ma c5).ownBlock = some j → j ≠ S) := Lib.hid (fun j hj => by have := (ho.lt hj).1; have := HSX.out; omega)
        obtain ⟨⟨q0, q1, q2⟩, g0, g1, g2⟩ := HX4.out.1.below hy
        have HMX := Lib.hid hma
        have r0 := HR5.out.1.c.1
        clear ho hy hma hkx hws4 hs4v HND
        obtain ⟨r0, r1, r2⟩ := r0
        go_wp2_with fail
        clear q0 q1 q2 g0 g1 g2 r0 r1 r2
        generalize (((W5.setCell ⟨S4, 0, none⟩ (.int .i64 ea)).setCell ⟨S4, 1, none⟩ (.slice a5 ma c5)).setCell ⟨S4, 2, none⟩ (.int .i64 na)) = V6 at *
        have HSP := spot_p r.ep r.nw n _ r.l V6 HR5.out.1.v (by have := HLL.out; omega)
        rw [hp] at HSP
        refine HSP.mono ?_
        clear HSP
        rintro _ U ⟨rfl, hbu⟩
        have HRU : Hid (CB U S r a r.l.length c ∧ Below w.heap.size w U) := Lib.hid ⟨HR5.out.1.below hbu, HR5.out.2.trans (hbu.mono HR5.out.2.size)⟩
        have HXU : Hid (RC U S4 ea (.slice a5 ma c5) na ∧ IsAt U (.slice a5 ma c5) la) := Lib.hid ⟨HX5.out.1.below hbu, HX5.out.2.below hbu⟩
        clear hbu HR4 HX4 HR5 HX5
        by_cases hp0 : p < 0
        · by_cases hq5 : r.nw = 0
          · have w4 : (r.nw == 0) = true := beq_iff_eq.2 hq5
            have HOK : oka = true := by rw [HPA.out.1]; rw [decide_eq_true hp0, decide_eq_true hq5]; rfl
            subst HOK
            have HTT := Lib.hid (HPA.out.2 rfl)
            clear hq5
            obtain ⟨he1, hm1⟩ := HTT.out
            have hwe : IntKind.i64.wrap (r.ep + 1) = r.ep + 1 := IntWalk.i64_in _ (by have := HEP.out; have := HLL.out; omega)
            have HMY := may_p ea na _ la U (by have := HXU.out.2; rw [← HMX.out] at this; exact this) (by have := mayR_len hm1; omega)
            rw [hm1, HMX.out] at HMY
            have HMY := Lib.hid HMY
            have HM1 := Lib.hid (And.intro he1 hm1)
            have hq1 : (ea != r.ep + 1) = false := by rw [bne_eq_false_iff_eq]; exact he1
            have hq2 : (ea == r.ep + 1) = true := beq_iff_eq.2 he1
            clear he1 hm1
            obtain ⟨⟨p0, p1, p2⟩, _⟩ := HRU.out.1.c
            obtain ⟨⟨q0, q1, q2⟩, _⟩ := HXU.out.1
            go_wp2_with fail
            clear p0 p1 p2 q0 q1 q2 hwe hq1 hq2
            refine HMY.out.mono ?_
            rintro _ U7 ⟨rfl, hb7⟩
            have HRV : Hid (CB U7 S r a r.l.length c ∧ Below w.heap.size w U7) := Lib.hid ⟨HRU.out.1.below hb7, HRU.out.2.trans (hb7.mono HRU.out.2.size)⟩
            have HXV : Hid (RC U7 S4 ea (.slice a5 ma c5) na ∧ IsAt U7 (.slice a5 ma c5) la) := Lib.hid ⟨HXU.out.1.below hb7, HXU.out.2.below hb7⟩
            clear hb7 HMY HRU HXU
            have HT0 := tr_take (R := ⟨ea, la, na⟩) (ax := a5) (cx := c5) (i := i + 1) HRV.out.1 HRV.out.2 HR.out.s (by have := HXV.out.2; rw [← HMX.out] at this; exact this) (by intro j hj; rw [HMX.out] at hj; exact HNE.out j hj) HM1.out.2 (by have h1 := HM1.out.1; have h2 := HR.out.ep; dsimp only; omega)
            dsimp only at HT0
            rw [HMX.out] at HT0
            have HT := Lib.hid HT0
            clear HT0
            obtain ⟨⟨p0, p1, p2⟩, f0, f1, f2⟩ := HRV.out.1.c
            obtain ⟨⟨q0, q1, q2⟩, _⟩ := HXV.out.1
            by_cases hq : i < len2
            · have u1 : (i : Int) < (len2 : Int) := by omega
              obtain ⟨rfl, x2⟩ := HA2.out (((U7.setCell ⟨S, 0, none⟩ (.int .i64 ea)).setCell ⟨S, 1, none⟩ (.slice a5 ma c5)).setCell ⟨S, 2, none⟩ (.int .i64 na)) i HT.out.b hq
              cases hcs2 : cs2 i with
              | false =>
                rw [hcs2] at x2
                go_wp2_with fail
                go_roundw
                case rel => exact ⟨i + 1, ⟨ea, la, na⟩, a5, c5, by go_num, by omega, Lib.hid (by have := HT.out; first | exact this | (rw [HMX.out]; exact this))⟩
                case measure => simp [intOf]; omega
              | true =>
                rw [hcs2] at x2
                have HT2 := Lib.hid (tr_learn HT.out)
                go_wp2_with fail
                go_roundw
                case rel => exact ⟨i + 1, _, _, _, by go_num, by omega, HT2⟩
                case measure => simp [intOf]; omega
            · have u1 : decide ((i : Int) < (len2 : Int)) = false := decide_eq_false (by omega)
              have u2 : ¬ (i : Int) < (len2 : Int) := by omega
              go_wp2_with fail
              go_roundw
              case rel => exact ⟨i + 1, ⟨ea, la, na⟩, a5, c5, by go_num, by omega, Lib.hid (by have := HT.out; first | exact this | (rw [HMX.out]; exact this))⟩
              case measure => simp [intOf]; omega
          · have w4 : (r.nw == 0) = false := by rw [beq_eq_false_iff_ne]; exact hq5
            have HOK : oka = false := by rw [HPA.out.1]; rw [decide_eq_false hq5]; simp
            subst HOK
            clear hq5
            have HT : Hid (TR w U S r a c (i + 1)) := Lib.hid ⟨HRU.out.1, HR.out.may, by have := HR.out.ep; omega, HRU.out.2, HR.out.s, HR.out.ne⟩
            obtain ⟨⟨p0, p1, p2⟩, f0, f1, f2⟩ := HRU.out.1.c
            clear HXU
            by_cases hq : i < len2
            · have u1 : (i : Int) < (len2 : Int) := by omega
              obtain ⟨rfl, x2⟩ := HA2.out U i HT.out.b hq
              cases hcs2 : cs2 i with
              | false =>
                rw [hcs2] at x2
                go_wp2_with fail
                go_roundw
                case rel => exact ⟨i + 1, r, a, c, by go_num, by omega, HT⟩
                case measure => simp [intOf]; omega
              | true =>
                rw [hcs2] at x2
                have HT2 := Lib.hid (tr_learn HT.out)
                go_wp2_with fail
                go_roundw
                case rel => exact ⟨i + 1, _, _, _, by go_num, by omega, HT2⟩
                case measure => simp [intOf]; omega
            · have u1 : decide ((i : Int) < (len2 : Int)) = false := decide_eq_false (by omega)
              have u2 : ¬ (i : Int) < (len2 : Int) := by omega
              go_wp2_with fail
              go_roundw
              case rel => exact ⟨i + 1, r, a, c, by go_num, by omega, HT⟩
              case measure => simp [intOf]; omega
        · have w0 : decide (p < 0) = false := decide_eq_false hp0
          have HOK : oka = false := by rw [HPA.out.1]; rw [decide_eq_false hp0]; rfl
          subst HOK
          have w00 : 0 ≤ p := by omega
          have HT : Hid (TR w U S r a c (i + 1)) := Lib.hid ⟨HRU.out.1, HR.out.may, by have := HR.out.ep; omega, HRU.out.2, HR.out.s, HR.out.ne⟩
          obtain ⟨⟨p0, p1, p2⟩, f0, f1, f2⟩ := HRU.out.1.c
          clear HXU
          by_cases hq : i < len2
          · have u1 : (i : Int) < (len2 : Int) := by omega
            obtain ⟨rfl, x2⟩ := HA2.out U i HT.out.b hq
            cases hcs2 : cs2 i with
            | false =>
              rw [hcs2] at x2
              go_wp2_with fail
              go_roundw
              case rel => exact ⟨i + 1, r, a, c, by go_num, by omega, HT⟩
              case measure => simp [intOf]; omega
            | true =>
              rw [hcs2] at x2
              have HT2 := Lib.hid (tr_learn HT.out)
              go_wp2_with fail
              go_roundw
              case rel => exact ⟨i + 1, _, _, _, by go_num, by omega, HT2⟩
              case measure => simp [intOf]; omega
          · have u1 : decide ((i : Int) < (len2 : Int)) = false := decide_eq_false (by omega)
            have u2 : ¬ (i : Int) < (len2 : Int) := by omega
            go_wp2_with fail
            go_roundw
            case rel => exact ⟨i + 1, r, a, c, by go_num, by omega, HT⟩
            case measure => simp [intOf]; omega
      | false =>
        rw [hcs1] at x1
        obtain ⟨⟨p0, p1, p2⟩, _⟩ := HR4.out.1.c
        go_wp2_with fail
        clear p0 p1 p2 x1
        generalize (W4.alloc (.cells #[.int .i64 ed, .slice a4 md c4, .int .i64 nd] 24)) = V4 at *
        generalize W4.heap.size = S4 at *
        have HSP := spot_p r.ep r.nw n _ r.l V4 HR4.out.1.v (by have := HLL.out; omega)
        rw [hp] at HSP
        refine HSP.mono ?_
        clear HSP HPA
        rintro _ U ⟨rfl, hbu⟩
        have HRU : Hid (CB U S r a r.l.length c ∧ Below w.heap.size w U) := Lib.hid ⟨HR4.out.1.below hbu, HR4.out.2.trans (hbu.mono HR4.out.2.size)⟩
        have HXU : Hid (RC U S4 ed (.slice a4 md c4) nd ∧ IsAt U (.slice a4 md c4) ld) := Lib.hid ⟨HX4.out.1.below hbu, HX4.out.2.below hbu⟩
        have HMX := Lib.hid HMD.out
        have HNE := Lib.hid HND.out
        clear hbu HR4 HX4
        by_cases hp0 : 0 ≤ p
        · by_cases hq1 : n = r.nw
          · have w1 : (n == r.nw) = true := beq_iff_eq.2 hq1
            have HOK : okd = true := by rw [HPD.out.1]; rw [decide_eq_true hp0, decide_eq_true hq1]; rfl
            subst HOK
            have HTT := Lib.hid (HPD.out.2 rfl)
            clear hq1
            obtain ⟨he1, hm1⟩ := HTT.out
            have hwe : IntKind.i64.wrap (r.ep + 1) = r.ep + 1 := IntWalk.i64_in _ (by have := HEP.out; have := HLL.out; omega)
            have HMY := may_p ed nd _ ld U (by have := HXU.out.2; rw [← HMX.out] at this; exact this) (by have := mayR_len hm1; omega)
            rw [hm1, HMX.out] at HMY
            have HMY := Lib.hid HMY
            have HM1 := Lib.hid (And.intro he1 hm1)
            have hq1 : (ed != r.ep + 1) = false := by rw [bne_eq_false_iff_eq]; exact he1
            have hq2 : (ed == r.ep + 1) = true := beq_iff_eq.2 he1
            clear he1 hm1
            obtain ⟨⟨p0, p1, p2⟩, _⟩ := HRU.out.1.c
            obtain ⟨⟨q0, q1, q2⟩, _⟩ := HXU.out.1
            go_wp2_with fail
            clear p0 p1 p2 q0 q1 q2 hwe hq1 hq2
            refine HMY.out.mono ?_
            rintro _ U7 ⟨rfl, hb7⟩
            have HRV : Hid (CB U7 S r a r.l.length c ∧ Below w.heap.size w U7) := Lib.hid ⟨HRU.out.1.below hb7, HRU.out.2.trans (hb7.mono HRU.out.2.size)⟩
            have HXV : Hid (RC U7 S4 ed (.slice a4 md c4) nd ∧ IsAt U7 (.slice a4 md c4) ld) := Lib.hid ⟨HXU.out.1.below hb7, HXU.out.2.below hb7⟩
            clear hb7 HMY HRU HXU
            have HT0 := tr_take (R := ⟨ed, ld, nd⟩) (ax := a4) (cx := c4) (i := i + 1) HRV.out.1 HRV.out.2 HR.out.s (by have := HXV.out.2; rw [← HMX.out] at this; exact this) (by intro j hj; rw [HMX.out] at hj; exact HNE.out j hj) HM1.out.2 (by have h1 := HM1.out.1; have h2 := HR.out.ep; dsimp only; omega)
            dsimp only at HT0
            rw [HMX.out] at HT0
            have HT := Lib.hid HT0
            clear HT0
            obtain ⟨⟨p0, p1, p2⟩, f0, f1, f2⟩ := HRV.out.1.c
            obtain ⟨⟨q0, q1, q2⟩, _⟩ := HXV.out.1
            by_cases hq : i < len2
            · have u1 : (i : Int) < (len2 : Int) := by omega
              obtain ⟨rfl, x2⟩ := HA2.out (((U7.setCell ⟨S, 0, none⟩ (.int .i64 ed)).setCell ⟨S, 1, none⟩ (.slice a4 md c4)).setCell ⟨S, 2, none⟩ (.int .i64 nd)) i HT.out.b hq
              cases hcs2 : cs2 i with
              | false =>
                rw [hcs2] at x2
                go_wp2_with fail
                go_roundw
                case rel => exact ⟨i + 1, ⟨ed, ld, nd⟩, a4, c4, by go_num, by omega, Lib.hid (by have := HT.out; first | exact this | (rw [HMX.out]; exact this))⟩
                case measure => simp [intOf]; omega
              | true =>
                rw [hcs2] at x2
                have HT2 := Lib.hid (tr_learn HT.out)
                go_wp2_with fail
                go_roundw
                case rel => exact ⟨i + 1, _, _, _, by go_num, by omega, HT2⟩
                case measure => simp [intOf]; omega
            · have u1 : decide ((i : Int) < (len2 : Int)) = false := decide_eq_false (by omega)
              have u2 : ¬ (i : Int) < (len2 : Int) := by omega
              go_wp2_with fail
              go_roundw
              case rel => exact ⟨i + 1, ⟨ed, ld, nd⟩, a4, c4, by go_num, by omega, Lib.hid (by have := HT.out; first | exact this | (rw [HMX.out]; exact this))⟩
              case measure => simp [intOf]; omega
          · have w1 : (n == r.nw) = false := by rw [beq_eq_false_iff_ne]; exact hq1
            by_cases hq3 : 2 < r.l.length
            · have w2 : (2 : Int) < (r.l.length : Int) := by omega
              have HOK : okd = true := by rw [HPD.out.1]; rw [decide_eq_true hp0, decide_eq_true hq3]; simp
              subst HOK
              have HTT := Lib.hid (HPD.out.2 rfl)
              clear hq1 hq3
              obtain ⟨he1, hm1⟩ := HTT.out
              have hwe : IntKind.i64.wrap (r.ep + 1) = r.ep + 1 := IntWalk.i64_in _ (by have := HEP.out; have := HLL.out; omega)
              have HMY := may_p ed nd _ ld U (by have := HXU.out.2; rw [← HMX.out] at this; exact this) (by have := mayR_len hm1; omega)
              rw [hm1, HMX.out] at HMY
              have HMY := Lib.hid HMY
              have HM1 := Lib.hid (And.intro he1 hm1)
              have hq1 : (ed != r.ep + 1) = false := by rw [bne_eq_false_iff_eq]; exact he1
              have hq2 : (ed == r.ep + 1) = true := beq_iff_eq.2 he1
              clear he1 hm1
              obtain ⟨⟨p0, p1, p2⟩, _⟩ := HRU.out.1.c
              obtain ⟨⟨q0, q1, q2⟩, _⟩ := HXU.out.1
              go_wp2_with fail
              clear p0 p1 p2 q0 q1 q2 hwe hq1 hq2
              refine HMY.out.mono ?_
              rintro _ U7 ⟨rfl, hb7⟩
              have HRV : Hid (CB U7 S r a r.l.length c ∧ Below w.heap.size w U7) := Lib.hid ⟨HRU.out.1.below hb7, HRU.out.2.trans (hb7.mono HRU.out.2.size)⟩
              have HXV : Hid (RC U7 S4 ed (.slice a4 md c4) nd ∧ IsAt U7 (.slice a4 md c4) ld) := Lib.hid ⟨HXU.out.1.below hb7, HXU.out.2.below hb7⟩
              clear hb7 HMY HRU HXU
              have HT0 := tr_take (R := ⟨ed, ld, nd⟩) (ax := a4) (cx := c4) (i := i + 1) HRV.out.1 HRV.out.2 HR.out.s (by have := HXV.out.2; rw [← HMX.out] at this; exact this) (by intro j hj; rw [HMX.out] at hj; exact HNE.out j hj) HM1.out.2 (by have h1 := HM1.out.1; have h2 := HR.out.ep; dsimp only; omega)
              dsimp only at HT0
              rw [HMX.out] at HT0
              have HT := Lib.hid HT0
              clear HT0
              obtain ⟨⟨p0, p1, p2⟩, f0, f1, f2⟩ := HRV.out.1.c
              obtain ⟨⟨q0, q1, q2⟩, _⟩ := HXV.out.1
              by_cases hq : i < len2
              · have u1 : (i : Int) < (len2 : Int) := by omega
                obtain ⟨rfl, x2⟩ := HA2.out (((U7.setCell ⟨S, 0, none⟩ (.int .i64 ed)).setCell ⟨S, 1, none⟩ (.slice a4 md c4)).setCell ⟨S, 2, none⟩ (.int .i64 nd)) i HT.out.b hq
                cases hcs2 : cs2 i with
                | false =>
                  rw [hcs2] at x2
                  go_wp2_with fail
                  go_roundw
                  case rel => exact ⟨i + 1, ⟨ed, ld, nd⟩, a4, c4, by go_num, by omega, Lib.hid (by have := HT.out; first | exact this | (rw [HMX.out]; exact this))⟩
                  case measure => simp [intOf]; omega
                | true =>
                  rw [hcs2] at x2
                  have HT2 := Lib.hid (tr_learn HT.out)
                  go_wp2_with fail
                  go_roundw
                  case rel => exact ⟨i + 1, _, _, _, by go_num, by omega, HT2⟩
                  case measure => simp [intOf]; omega
              · have u1 : decide ((i : Int) < (len2 : Int)) = false := decide_eq_false (by omega)
                have u2 : ¬ (i : Int) < (len2 : Int) := by omega
                go_wp2_with fail
                go_roundw
                case rel => exact ⟨i + 1, ⟨ed, ld, nd⟩, a4, c4, by go_num, by omega, Lib.hid (by have := HT.out; first | exact this | (rw [HMX.out]; exact this))⟩
                case measure => simp [intOf]; omega
            · have w2 : decide ((2 : Int) < (r.l.length : Int)) = false := decide_eq_false (by omega)
              by_cases hq4 : r.l.length = 2
              · have w3 : ((r.l.length : Int) == 2) = true := beq_iff_eq.2 (by omega)
                by_cases hq5 : r.nw = 0
                · have w4 : (r.nw == 0) = true := beq_iff_eq.2 hq5
                  have HOK : okd = true := by rw [HPD.out.1]; rw [decide_eq_true hp0, decide_eq_true hq4, decide_eq_true hq5]; simp
                  subst HOK
                  have HTT := Lib.hid (HPD.out.2 rfl)
                  clear hq1 hq3 hq4 hq5
                  obtain ⟨he1, hm1⟩ := HTT.out
                  have hwe : IntKind.i64.wrap (r.ep + 1) = r.ep + 1 := IntWalk.i64_in _ (by have := HEP.out; have := HLL.out; omega)
                  have HMY := may_p ed nd _ ld U (by have := HXU.out.2; rw [← HMX.out] at this; exact this) (by have := mayR_len hm1; omega)
                  rw [hm1, HMX.out] at HMY
                  have HMY := Lib.hid HMY
                  have HM1 := Lib.hid (And.intro he1 hm1)
                  have hq1 : (ed != r.ep + 1) = false := by rw [bne_eq_false_iff_eq]; exact he1
                  have hq2 : (ed == r.ep + 1) = true := beq_iff_eq.2 he1
                  clear he1 hm1
                  obtain ⟨⟨p0, p1, p2⟩, _⟩ := HRU.out.1.c
                  obtain ⟨⟨q0, q1, q2⟩, _⟩ := HXU.out.1
                  go_wp2_with fail
                  clear p0 p1 p2 q0 q1 q2 hwe hq1 hq2
                  refine HMY.out.mono ?_
                  rintro _ U7 ⟨rfl, hb7⟩
                  have HRV : Hid (CB U7 S r a r.l.length c ∧ Below w.heap.size w U7) := Lib.hid ⟨HRU.out.1.below hb7, HRU.out.2.trans (hb7.mono HRU.out.2.size)⟩
                  have HXV : Hid (RC U7 S4 ed (.slice a4 md c4) nd ∧ IsAt U7 (.slice a4 md c4) ld) := Lib.hid ⟨HXU.out.1.below hb7, HXU.out.2.below hb7⟩
                  clear hb7 HMY HRU HXU
                  have HT0 := tr_take (R := ⟨ed, ld, nd⟩) (ax := a4) (cx := c4) (i := i + 1) HRV.out.1 HRV.out.2 HR.out.s (by have := HXV.out.2; rw [← HMX.out] at this; exact this) (by intro j hj; rw [HMX.out] at hj; exact HNE.out j hj) HM1.out.2 (by have h1 := HM1.out.1; have h2 := HR.out.ep; dsimp only; omega)
                  dsimp only at HT0
                  rw [HMX.out] at HT0
                  have HT := Lib.hid HT0
                  clear HT0
                  obtain ⟨⟨p0, p1, p2⟩, f0, f1, f2⟩ := HRV.out.1.c
                  obtain ⟨⟨q0, q1, q2⟩, _⟩ := HXV.out.1
                  by_cases hq : i < len2
                  · have u1 : (i : Int) < (len2 : Int) := by omega
                    obtain ⟨rfl, x2⟩ := HA2.out (((U7.setCell ⟨S, 0, none⟩ (.int .i64 ed)).setCell ⟨S, 1, none⟩ (.slice a4 md c4)).setCell ⟨S, 2, none⟩ (.int .i64 nd)) i HT.out.b hq
                    cases hcs2 : cs2 i with
                    | false =>
                      rw [hcs2] at x2
                      go_wp2_with fail
                      go_roundw
                      case rel => exact ⟨i + 1, ⟨ed, ld, nd⟩, a4, c4, by go_num, by omega, Lib.hid (by have := HT.out; first | exact this | (rw [HMX.out]; exact this))⟩
                      case measure => simp [intOf]; omega
                    | true =>
                      rw [hcs2] at x2
                      have HT2 := Lib.hid (tr_learn HT.out)
                      go_wp2_with fail
                      go_roundw
                      case rel => exact ⟨i + 1, _, _, _, by go_num, by omega, HT2⟩
                      case measure => simp [intOf]; omega
                  · have u1 : decide ((i : Int) < (len2 : Int)) = false := decide_eq_false (by omega)
                    have u2 : ¬ (i : Int) < (len2 : Int) := by omega
                    go_wp2_with fail
                    go_roundw
                    case rel => exact ⟨i + 1, ⟨ed, ld, nd⟩, a4, c4, by go_num, by omega, Lib.hid (by have := HT.out; first | exact this | (rw [HMX.out]; exact this))⟩
                    case measure => simp [intOf]; omega
                · have w4 : (r.nw == 0) = false := by rw [beq_eq_false_iff_ne]; exact hq5
                  have HOK : okd = false := by rw [HPD.out.1]; rw [decide_eq_false hq1, decide_eq_false hq3, decide_eq_false hq5]; simp
                  subst HOK
                  clear hq1 hq3 hq4 hq5
                  have HT : Hid (TR w U S r a c (i + 1)) := Lib.hid ⟨HRU.out.1, HR.out.may, by have := HR.out.ep; omega, HRU.out.2, HR.out.s, HR.out.ne⟩
                  obtain ⟨⟨p0, p1, p2⟩, f0, f1, f2⟩ := HRU.out.1.c
                  clear HXU
                  by_cases hq : i < len2
                  · have u1 : (i : Int) < (len2 : Int) := by omega
                    obtain ⟨rfl, x2⟩ := HA2.out U i HT.out.b hq
                    cases hcs2 : cs2 i with
                    | false =>
                      rw [hcs2] at x2
                      go_wp2_with fail
                      go_roundw
                      case rel => exact ⟨i + 1, r, a, c, by go_num, by omega, HT⟩
                      case measure => simp [intOf]; omega
                    | true =>
                      rw [hcs2] at x2
                      have HT2 := Lib.hid (tr_learn HT.out)
                      go_wp2_with fail
                      go_roundw
                      case rel => exact ⟨i + 1, _, _, _, by go_num, by omega, HT2⟩
                      case measure => simp [intOf]; omega
                  · have u1 : decide ((i : Int) < (len2 : Int)) = false := decide_eq_false (by omega)
                    have u2 : ¬ (i : Int) < (len2 : Int) := by omega
                    go_wp2_with fail
                    go_roundw
                    case rel => exact ⟨i + 1, r, a, c, by go_num, by omega, HT⟩
                    case measure => simp [intOf]; omega
              · have w3 : ((r.l.length : Int) == 2) = false := by rw [beq_eq_false_iff_ne]; omega
                have HOK : okd = false := by rw [HPD.out.1]; rw [decide_eq_false hq1, decide_eq_false hq3, decide_eq_false hq4]; simp
                subst HOK
                clear hq1 hq3 hq4
                have HT : Hid (TR w U S r a c (i + 1)) := Lib.hid ⟨HRU.out.1, HR.out.may, by have := HR.out.ep; omega, HRU.out.2, HR.out.s, HR.out.ne⟩
                obtain ⟨⟨p0, p1, p2⟩, f0, f1, f2⟩ := HRU.out.1.c
                clear HXU
                by_cases hq : i < len2
                · have u1 : (i : Int) < (len2 : Int) := by omega
                  obtain ⟨rfl, x2⟩ := HA2.out U i HT.out.b hq
                  cases hcs2 : cs2 i with
                  | false =>
                    rw [hcs2] at x2
                    go_wp2_with fail
                    go_roundw
                    case rel => exact ⟨i + 1, r, a, c, by go_num, by omega, HT⟩
                    case measure => simp [intOf]; omega
                  | true =>
                    rw [hcs2] at x2
                    have HT2 := Lib.hid (tr_learn HT.out)
                    go_wp2_with fail
                    go_roundw
                    case rel => exact ⟨i + 1, _, _, _, by go_num, by omega, HT2⟩
                    case measure => simp [intOf]; omega
                · have u1 : decide ((i : Int) < (len2 : Int)) = false := decide_eq_false (by omega)
                  have u2 : ¬ (i : Int) < (len2 : Int) := by omega
                  go_wp2_with fail
                  go_roundw
                  case rel => exact ⟨i + 1, r, a, c, by go_num, by omega, HT⟩
                  case measure => simp [intOf]; omega
        · have w0 : decide (0 ≤ p) = false := decide_eq_false hp0
          have HOK : okd = false := by rw [HPD.out.1]; rw [decide_eq_false hp0]; rfl
          subst HOK
          have w00 : p < 0 := by omega
          have HT : Hid (TR w U S r a c (i + 1)) := Lib.hid ⟨HRU.out.1, HR.out.may, by have := HR.out.ep; omega, HRU.out.2, HR.out.s, HR.out.ne⟩
          obtain ⟨⟨p0, p1, p2⟩, f0, f1, f2⟩ := HRU.out.1.c
          clear HXU
          by_cases hq : i < len2
          · have u1 : (i : Int) < (len2 : Int) := by omega
            obtain ⟨rfl, x2⟩ := HA2.out U i HT.out.b hq
            cases hcs2 : cs2 i with
            | false =>
              rw [hcs2] at x2
              go_wp2_with fail
              go_roundw
              case rel => exact ⟨i + 1, r, a, c, by go_num, by omega, HT⟩
              case measure => simp [intOf]; omega
            | true =>
              rw [hcs2] at x2
              have HT2 := Lib.hid (tr_learn HT.out)
              go_wp2_with fail
              go_roundw
              case rel => exact ⟨i + 1, _, _, _, by go_num, by omega, HT2⟩
              case measure => simp [intOf]; omega
          · have u1 : decide ((i : Int) < (len2 : Int)) = false := decide_eq_false (by omega)
            have u2 : ¬ (i : Int) < (len2 : Int) := by omega
            go_wp2_with fail
            go_roundw
            case rel => exact ⟨i + 1, r, a, c, by go_num, by omega, HT⟩
            case measure => simp [intOf]; omega
    · have v1 : decide ((i : Int) < (len1 : Int)) = false := decide_eq_false (by omega)
      have v2 : ¬ (i : Int) < (len1 : Int) := by omega
      obtain ⟨⟨p0, p1, p2⟩, _⟩ := HR4.out.1.c
      go_wp2_with fail
      clear p0 p1 p2 
      generalize (W4.alloc (.cells #[.int .i64 ed, .slice a4 md c4, .int .i64 nd] 24)) = V4 at *
      generalize W4.heap.size = S4 at *
      have HSP := spot_p r.ep r.nw n _ r.l V4 HR4.out.1.v (by have := HLL.out; omega)
      rw [hp] at HSP
      refine HSP.mono ?_
      clear HSP HPA
      rintro _ U ⟨rfl, hbu⟩
      have HRU : Hid (CB U S r a r.l.length c ∧ Below w.heap.size w U) := Lib.hid ⟨HR4.out.1.below hbu, HR4.out.2.trans (hbu.mono HR4.out.2.size)⟩
      have HXU : Hid (RC U S4 ed (.slice a4 md c4) nd ∧ IsAt U (.slice a4 md c4) ld) := Lib.hid ⟨HX4.out.1.below hbu, HX4.out.2.below hbu⟩
      have HMX := Lib.hid HMD.out
      have HNE := Lib.hid HND.out
      clear hbu HR4 HX4
      by_cases hp0 : 0 ≤ p
      · by_cases hq1 : n = r.nw
        · have w1 : (n == r.nw) = true := beq_iff_eq.2 hq1
          have HOK : okd = true := by rw [HPD.out.1]; rw [decide_eq_true hp0, decide_eq_true hq1]; rfl
          subst HOK
          have HTT := Lib.hid (HPD.out.2 rfl)
          clear hq1
          obtain ⟨he1, hm1⟩ := HTT.out
          have hwe : IntKind.i64.wrap (r.ep + 1) = r.ep + 1 := IntWalk.i64_in _ (by have := HEP.out; have := HLL.out; omega)
          have HMY := may_p ed nd _ ld U (by have := HXU.out.2; rw [← HMX.out] at this; exact this) (by have := mayR_len hm1; omega)
          rw [hm1, HMX.out] at HMY
          have HMY := Lib.hid HMY
          have HM1 := Lib.hid (And.intro he1 hm1)
          have hq1 : (ed != r.ep + 1) = false := by rw [bne_eq_false_iff_eq]; exact he1
          have hq2 : (ed == r.ep + 1) = true := beq_iff_eq.2 he1
          clear he1 hm1
          obtain ⟨⟨p0, p1, p2⟩, _⟩ := HRU.out.1.c
          obtain ⟨⟨q0, q1, q2⟩, _⟩ := HXU.out.1
          go_wp2_with fail
          clear p0 p1 p2 q0 q1 q2 hwe hq1 hq2
          refine HMY.out.mono ?_
          rintro _ U7 ⟨rfl, hb7⟩
          have HRV : Hid (CB U7 S r a r.l.length c ∧ Below w.heap.size w U7) := Lib.hid ⟨HRU.out.1.below hb7, HRU.out.2.trans (hb7.mono HRU.out.2.size)⟩
          have HXV : Hid (RC U7 S4 ed (.slice a4 md c4) nd ∧ IsAt U7 (.slice a4 md c4) ld) := Lib.hid ⟨HXU.out.1.below hb7, HXU.out.2.below hb7⟩
          clear hb7 HMY HRU HXU
          have HT0 := tr_take (R := ⟨ed, ld, nd⟩) (ax := a4) (cx := c4) (i := i + 1) HRV.out.1 HRV.out.2 HR.out.s (by have := HXV.out.2; rw [← HMX.out] at this; exact this) (by intro j hj; rw [HMX.out] at hj; exact HNE.out j hj) HM1.out.2 (by have h1 := HM1.out.1; have h2 := HR.out.ep; dsimp only; omega)
          dsimp only at HT0
          rw [HMX.out] at HT0
          have HT := Lib.hid HT0
          clear HT0
          obtain ⟨⟨p0, p1, p2⟩, f0, f1, f2⟩ := HRV.out.1.c
          obtain ⟨⟨q0, q1, q2⟩, _⟩ := HXV.out.1
          by_cases hq : i < len2
          · have u1 : (i : Int) < (len2 : Int) := by omega
            obtain ⟨rfl, x2⟩ := HA2.out (((U7.setCell ⟨S, 0, none⟩ (.int .i64 ed)).setCell ⟨S, 1, none⟩ (.slice a4 md c4)).setCell ⟨S, 2, none⟩ (.int .i64 nd)) i HT.out.b hq
            cases hcs2 : cs2 i with
            | false =>
              rw [hcs2] at x2
              go_wp2_with fail
              go_roundw
              case rel => exact ⟨i + 1, ⟨ed, ld, nd⟩, a4, c4, by go_num, by omega, Lib.hid (by have := HT.out; first | exact this | (rw [HMX.out]; exact this))⟩
              case measure => simp [intOf]; omega
            | true =>
              rw [hcs2] at x2
              have HT2 := Lib.hid (tr_learn HT.out)
              go_wp2_with fail
              go_roundw
              case rel => exact ⟨i + 1, _, _, _, by go_num, by omega, HT2⟩
              case measure => simp [intOf]; omega
          · have u1 : decide ((i : Int) < (len2 : Int)) = false := decide_eq_false (by omega)
            have u2 : ¬ (i : Int) < (len2 : Int) := by omega
            go_wp2_with fail
            go_roundw
            case rel => exact ⟨i + 1, ⟨ed, ld, nd⟩, a4, c4, by go_num, by omega, Lib.hid (by have := HT.out; first | exact this | (rw [HMX.out]; exact this))⟩
            case measure => simp [intOf]; omega
        · have w1 : (n == r.nw) = false := by rw [beq_eq_false_iff_ne]; exact hq1
          by_cases hq3 : 2 < r.l.length
          · have w2 : (2 : Int) < (r.l.length : Int) := by omega
            have HOK : okd = true := by rw [HPD.out.1]; rw [decide_eq_true hp0, decide_eq_true hq3]; simp
            subst HOK
            have HTT := Lib.hid (HPD.out.2 rfl)
            clear hq1 hq3
            obtain ⟨he1, hm1⟩ := HTT.out
            have hwe : IntKind.i64.wrap (r.ep + 1) = r.ep + 1 := IntWalk.i64_in _ (by have := HEP.out; have := HLL.out; omega)
            have HMY := may_p ed nd _ ld U (by have := HXU.out.2; rw [← HMX.out] at this; exact this) (by have := mayR_len hm1; omega)
            rw [hm1, HMX.out] at HMY
            have HMY := Lib.hid HMY
            have HM1 := Lib.hid (And.intro he1 hm1)
            have hq1 : (ed != r.ep + 1) = false := by rw [bne_eq_false_iff_eq]; exact he1
            have hq2 : (ed == r.ep + 1) = true := beq_iff_eq.2 he1
            clear he1 hm1
            obtain ⟨⟨p0, p1, p2⟩, _⟩ := HRU.out.1.c
            obtain ⟨⟨q0, q1, q2⟩, _⟩ := HXU.out.1
            go_wp2_with fail
            clear p0 p1 p2 q0 q1 q2 hwe hq1 hq2
            refine HMY.out.mono ?_
            rintro _ U7 ⟨rfl, hb7⟩
            have HRV : Hid (CB U7 S r a r.l.length c ∧ Below w.heap.size w U7) := Lib.hid ⟨HRU.out.1.below hb7, HRU.out.2.trans (hb7.mono HRU.out.2.size)⟩
            have HXV : Hid (RC U7 S4 ed (.slice a4 md c4) nd ∧ IsAt U7 (.slice a4 md c4) ld) := Lib.hid ⟨HXU.out.1.below hb7, HXU.out.2.below hb7⟩
            clear hb7 HMY HRU HXU
            have HT0 := tr_take (R := ⟨ed, ld, nd⟩) (ax := a4) (cx := c4) (i := i + 1) HRV.out.1 HRV.out.2 HR.out.s (by have := HXV.out.2; rw [← HMX.out] at this; exact this) (by intro j hj; rw [HMX.out] at hj; exact HNE.out j hj) HM1.out.2 (by have h1 := HM1.out.1; have h2 := HR.out.ep; dsimp only; omega)
            dsimp only at HT0
            rw [HMX.out] at HT0
            have HT := Lib.hid HT0
            clear HT0
            obtain ⟨⟨p0, p1, p2⟩, f0, f1, f2⟩ := HRV.out.1.c
            obtain ⟨⟨q0, q1, q2⟩, _⟩ := HXV.out.1
            by_cases hq : i < len2
            · have u1 : (i : Int) < (len2 : Int) := by omega
              obtain ⟨rfl, x2⟩ := HA2.out (((U7.setCell ⟨S, 0, none⟩ (.int .i64 ed)).setCell ⟨S, 1, none⟩ (.slice a4 md c4)).setCell ⟨S, 2, none⟩ (.int .i64 nd)) i HT.out.b hq
              cases hcs2 : cs2 i with
              | false =>
                rw [hcs2] at x2
                go_wp2_with fail
                go_roundw
                case rel => exact ⟨i + 1, ⟨ed, ld, nd⟩, a4, c4, by go_num, by omega, Lib.hid (by have := HT.out; first | exact this | (rw [HMX.out]; exact this))⟩
                case measure => simp [intOf]; omega
              | true =>
                rw [hcs2] at x2
                have HT2 := Lib.hid (tr_learn HT.out)
                go_wp2_with fail
                go_roundw
                case rel => exact ⟨i + 1, _, _, _, by go_num, by omega, HT2⟩
                case measure => simp [intOf]; omega
            · have u1 : decide ((i : Int) < (len2 : Int)) = false := decide_eq_false (by omega)
              have u2 : ¬ (i : Int) < (len2 : Int) := by omega
              go_wp2_with fail
              go_roundw
              case rel => exact ⟨i + 1, ⟨ed, ld, nd⟩, a4, c4, by go_num, by omega, Lib.hid (by have := HT.out; first | exact this | (rw [HMX.out]; exact this))⟩
              case measure => simp [intOf]; omega
          · have w2 : decide ((2 : Int) < (r.l.length : Int)) = false := decide_eq_false (by omega)
            by_cases hq4 : r.l.length = 2
            · have w3 : ((r.l.length : Int) == 2) = true := beq_iff_eq.2 (by omega)
              by_cases hq5 : r.nw = 0
              · have w4 : (r.nw == 0) = true := beq_iff_eq.2 hq5
                have HOK : okd = true := by rw [HPD.out.1]; rw [decide_eq_true hp0, decide_eq_true hq4, decide_eq_true hq5]; simp
                subst HOK
                have HTT := Lib.hid (HPD.out.2 rfl)
                clear hq1 hq3 hq4 hq5
                obtain ⟨he1, hm1⟩ := HTT.out
                have hwe : IntKind.i64.wrap (r.ep + 1) = r.ep + 1 := IntWalk.i64_in _ (by have := HEP.out; have := HLL.out; omega)
                have HMY := may_p ed nd _ ld U (by have := HXU.out.2; rw [← HMX.out] at this; exact this) (by have := mayR_len hm1; omega)
                rw [hm1, HMX.out] at HMY
                have HMY := Lib.hid HMY
                have HM1 := Lib.hid (And.intro he1 hm1)
                have hq1 : (ed != r.ep + 1) = false := by rw [bne_eq_false_iff_eq]; exact he1
                have hq2 : (ed == r.ep + 1) = true := beq_iff_eq.2 he1
                clear he1 hm1
                obtain ⟨⟨p0, p1, p2⟩, _⟩ := HRU.out.1.c
                obtain ⟨⟨q0, q1, q2⟩, _⟩ := HXU.out.1
                go_wp2_with fail
                clear p0 p1 p2 q0 q1 q2 hwe hq1 hq2
                refine HMY.out.mono ?_
                rintro _ U7 ⟨rfl, hb7⟩
                have HRV : Hid (CB U7 S r a r.l.length c ∧ Below w.heap.size w U7) := Lib.hid ⟨HRU.out.1.below hb7, HRU.out.2.trans (hb7.mono HRU.out.2.size)⟩
                have HXV : Hid (RC U7 S4 ed (.slice a4 md c4) nd ∧ IsAt U7 (.slice a4 md c4) ld) := Lib.hid ⟨HXU.out.1.below hb7, HXU.out.2.below hb7⟩
                clear hb7 HMY HRU HXU
                have HT0 := tr_take (R := ⟨ed, ld, nd⟩) (ax := a4) (cx := c4) (i := i + 1) HRV.out.1 HRV.out.2 HR.out.s (by have := HXV.out.2; rw [← HMX.out] at this; exact this) (by intro j hj; rw [HMX.out] at hj; exact HNE.out j hj) HM1.out.2 (by have h1 := HM1.out.1; have h2 := HR.out.ep; dsimp only; omega)
                dsimp only at HT0
                rw [HMX.out] at HT0
                have HT := Lib.hid HT0
                clear HT0
                obtain ⟨⟨p0, p1, p2⟩, f0, f1, f2⟩ := HRV.out.1.c
                obtain ⟨⟨q0, q1, q2⟩, _⟩ := HXV.out.1
                by_cases hq : i < len2
                · have u1 : (i : Int) < (len2 : Int) := by omega
                  obtain ⟨rfl, x2⟩ := HA2.out (((U7.setCell ⟨S, 0, none⟩ (.int .i64 ed)).setCell ⟨S, 1, none⟩ (.slice a4 md c4)).setCell ⟨S, 2, none⟩ (.int .i64 nd)) i HT.out.b hq
                  cases hcs2 : cs2 i with
                  | false =>
                    rw [hcs2] at x2
                    go_wp2_with fail
                    go_roundw
                    case rel => exact ⟨i + 1, ⟨ed, ld, nd⟩, a4, c4, by go_num, by omega, Lib.hid (by have := HT.out; first | exact this | (rw [HMX.out]; exact this))⟩
                    case measure => simp [intOf]; omega
                  | true =>
                    rw [hcs2] at x2
                    have HT2 := Lib.hid (tr_learn HT.out)
                    go_wp2_with fail
                    go_roundw
                    case rel => exact ⟨i + 1, _, _, _, by go_num, by omega, HT2⟩
                    case measure => simp [intOf]; omega
                · have u1 : decide ((i : Int) < (len2 : Int)) = false := decide_eq_false (by omega)
                  have u2 : ¬ (i : Int) < (len2 : Int) := by omega
                  go_wp2_with fail
                  go_roundw
                  case rel => exact ⟨i + 1, ⟨ed, ld, nd⟩, a4, c4, by go_num, by omega, Lib.hid (by have := HT.out; first | exact this | (rw [HMX.out]; exact this))⟩
                  case measure => simp [intOf]; omega
              · have w4 : (r.nw == 0) = false := by rw [beq_eq_false_iff_ne]; exact hq5
                have HOK : okd = false := by rw [HPD.out.1]; rw [decide_eq_false hq1, decide_eq_false hq3, decide_eq_false hq5]; simp
                subst HOK
                clear hq1 hq3 hq4 hq5
                have HT : Hid (TR w U S r a c (i + 1)) := Lib.hid ⟨HRU.out.1, HR.out.may, by have := HR.out.ep; omega, HRU.out.2, HR.out.s, HR.out.ne⟩
                obtain ⟨⟨p0, p1, p2⟩, f0, f1, f2⟩ := HRU.out.1.c
                clear HXU
                by_cases hq : i < len2
                · have u1 : (i : Int) < (len2 : Int) := by omega
                  obtain ⟨rfl, x2⟩ := HA2.out U i HT.out.b hq
                  cases hcs2 : cs2 i with
                  | false =>
                    rw [hcs2] at x2
                    go_wp2_with fail
                    go_roundw
                    case rel => exact ⟨i + 1, r, a, c, by go_num, by omega, HT⟩
                    case measure => simp [intOf]; omega
                  | true =>
                    rw [hcs2] at x2
                    have HT2 := Lib.hid (tr_learn HT.out)
                    go_wp2_with fail
                    go_roundw
                    case rel => exact ⟨i + 1, _, _, _, by go_num, by omega, HT2⟩
                    case measure => simp [intOf]; omega
                · have u1 : decide ((i : Int) < (len2 : Int)) = false := decide_eq_false (by omega)
                  have u2 : ¬ (i : Int) < (len2 : Int) := by omega
                  go_wp2_with fail
                  go_roundw
                  case rel => exact ⟨i + 1, r, a, c, by go_num, by omega, HT⟩
                  case measure => simp [intOf]; omega
            · have w3 : ((r.l.length : Int) == 2) = false := by rw [beq_eq_false_iff_ne]; omega
              have HOK : okd = false := by rw [HPD.out.1]; rw [decide_eq_false hq1, decide_eq_false hq3, decide_eq_false hq4]; simp
              subst HOK
              clear hq1 hq3 hq4
              have HT : Hid (TR w U S r a c (i + 1)) := Lib.hid ⟨HRU.out.1, HR.out.may, by have := HR.out.ep; omega, HRU.out.2, HR.out.s, HR.out.ne⟩
              obtain ⟨⟨p0, p1, p2⟩, f0, f1, f2⟩ := HRU.out.1.c
              clear HXU
              by_cases hq : i < len2
              · have u1 : (i : Int) < (len2 : Int) := by omega
                obtain ⟨rfl, x2⟩ := HA2.out U i HT.out.b hq
                cases hcs2 : cs2 i with
                | false =>
                  rw [hcs2] at x2
                  go_wp2_with fail
                  go_roundw
                  case rel => exact ⟨i + 1, r, a, c, by go_num, by omega, HT⟩
                  case measure => simp [intOf]; omega
                | true =>
                  rw [hcs2] at x2
                  have HT2 := Lib.hid (tr_learn HT.out)
                  go_wp2_with fail
                  go_roundw
                  case rel => exact ⟨i + 1, _, _, _, by go_num, by omega, HT2⟩
                  case measure => simp [intOf]; omega
              · have u1 : decide ((i : Int) < (len2 : Int)) = false := decide_eq_false (by omega)
                have u2 : ¬ (i : Int) < (len2 : Int) := by omega
                go_wp2_with fail
                go_roundw
                case rel => exact ⟨i + 1, r, a, c, by go_num, by omega, HT⟩
                case measure => simp [intOf]; omega
      · have w0 : decide (0 ≤ p) = false := decide_eq_false hp0
        have HOK : okd = false := by rw [HPD.out.1]; rw [decide_eq_false hp0]; rfl
        subst HOK
        have w00 : p < 0 := by omega
        have HT : Hid (TR w U S r a c (i + 1)) := Lib.hid ⟨HRU.out.1, HR.out.may, by have := HR.out.ep; omega, HRU.out.2, HR.out.s, HR.out.ne⟩
        obtain ⟨⟨p0, p1, p2⟩, f0, f1, f2⟩ := HRU.out.1.c
        clear HXU
        by_cases hq : i < len2
        · have u1 : (i : Int) < (len2 : Int) := by omega
          obtain ⟨rfl, x2⟩ := HA2.out U i HT.out.b hq
          cases hcs2 : cs2 i with
          | false =>
            rw [hcs2] at x2
            go_wp2_with fail
            go_roundw
            case rel => exact ⟨i + 1, r, a, c, by go_num, by omega, HT⟩
            case measure => simp [intOf]; omega
          | true =>
            rw [hcs2] at x2
            have HT2 := Lib.hid (tr_learn HT.out)
            go_wp2_with fail
            go_roundw
            case rel => exact ⟨i + 1, _, _, _, by go_num, by omega, HT2⟩
            case measure => simp [intOf]; omega
        · have u1 : decide ((i : Int) < (len2 : Int)) = false := decide_eq_false (by omega)
          have u2 : ¬ (i : Int) < (len2 : Int) := by omega
          go_wp2_with fail
          go_roundw
          case rel => exact ⟨i + 1, r, a, c, by go_num, by omega, HT⟩
          case measure => simp [intOf]; omega

end Go.Proofs.Ytlemkpcpeamojaa
