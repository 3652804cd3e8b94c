/-
  Contracts of the program, and what they rest on.
-/
import Derived.Test.YtaacdggjkfmehaaGreatDoorM16
namespace Go.Proofs.YtaacdggjkfmehaaGreatDoor
open Go.RowKit Go.Maps Go.Proofs.MapD Go.Proofs.Chest
def Torn (w : World) (st : St) (w' : World) : Prop := ∃ F', Rep w' w.heap.size F' st ∧ (∀ k ∈ F', w.heap.size ≤ k) ∧ Below w.heap.size w w'
set_option maxRecDepth 100000 in
set_option maxHeartbeats 8000000 in
theorem tear_none {w : World} {c room : Nat} {L : List En} (h : RepL w c room none L) (n : Int) :
    Calls Tryz.prog 15 #[.pointer (some ⟨c, 0, none⟩), .int .i64 n] w fun x w' => x = .returned (.pointer (some ⟨w.heap.size, 0, none⟩)) ∧ Torn w (tear ⟨room, ab L⟩ n) w' := by
  have h0 : nb L = [] := h.map
  have hL : L = [] := by unfold nb at h0; exact List.map_eq_nil_iff.1 h0
  subst hL
  rw [show tear ⟨room, ab []⟩ n = ⟨room, []⟩ from rfl]
  have hwf : Wf ⟨room, []⟩ := h.wf
  obtain ⟨⟨c0, c1⟩, _, _⟩ := h.ch
  have d1 : (w.alloc (.cells #[.int .i64 room, .map none] 64)).cell? ⟨c, 1, none⟩ = some (.map none) := by rw [World.cell?_alloc_lt _ _ _ (World.block_lt_of_cell? w _ c1)]; exact c1
  have hrg := run_range_nilMap (P := Tryz.prog) (w.alloc (.cells #[.int .i64 room, .map none] 64)) 62 9 83 Tryz.underlying62
  have hnx : ∀ ty, (Instr.next (.pointer (some ⟨(w.alloc (.cells #[.int .i64 room, .map none] 64)).heap.size, 0, none⟩)) false ty).run Tryz.prog ((w.alloc (.cells #[.int .i64 room, .map none] 64)).alloc (.mapIter none 0 #[] 0)) = _ := fun ty => run_next_nilMap _ ty 0 0 #[]
  have e1 : (w.alloc (.cells #[.int .i64 room, .map none] 64)).heap.size = w.heap.size + 1 := by simp
  rw [e1] at hrg hnx
  have HW := Lib.hid hwf
  clear h hwf e1 h0
  go_enter Tryz.func15, Tryz.ntmps15
  go_wp2
  refine wp_loop_rounds 1 ?_
  rw [rounds_succ]
  go_wp2
  go_ret
  refine ⟨rfl, [w.heap.size], ⟨none, [], ⟨⟨⟨?_, ?_⟩, ?_, ?_⟩, rfl, by simp, ⟨by simp, by simp, by simp, by simp, .nil⟩, HW.out⟩, rfl, rfl⟩, by simp, ((Below.refl _ _).alloc (Nat.le_refl _) _).alloc (by simp) _⟩ <;> go_simp
set_option maxRecDepth 100000 in
set_option maxHeartbeats 8000000 in
theorem tear_some {w : World} {c room b : Nat} {L : List En} (h : RepL w c room (some b) L) (hL : L.length ≤ 1000000) (n : Int) :
    Calls Tryz.prog 15 #[.pointer (some ⟨c, 0, none⟩), .int .i64 n] w fun x w' => x = .returned (.pointer (some ⟨w.heap.size, 0, none⟩)) ∧ Torn w (tear ⟨room, ab L⟩ n) w' := by
  have hwf := h.wf
  have HH := Lib.hid h
  have hown := (h.map : w.ownsMap Tryz.prog 9 ptrElem b (nb L).length (D (nb L))).alloc (.cells #[.int .i64 room, .map none] 64)
  have hroom : room ≤ 1048576 := by have := hwf.room; simp only at this; omega
  have hbw : b < w.heap.size := h.map.lt
  obtain ⟨⟨c0, c1⟩, _, _⟩ := h.ch
  have d1 : (w.alloc (.cells #[.int .i64 room, .map none] 64)).cell? ⟨c, 1, none⟩ = some (.map (some b)) := by rw [World.cell?_alloc_lt _ _ _ (World.block_lt_of_cell? w _ c1)]; exact c1
  have hD0 : RepL (w.alloc (.cells #[.int .i64 room, .map none] 64)) w.heap.size room none [] := by
    refine ⟨⟨⟨?_, ?_⟩, ?_, ?_⟩, rfl, by simp, ⟨by simp, by simp, by simp, by simp, .nil⟩, wf_new room hroom⟩ <;> go_simp
  have HD0 := Lib.hid hD0
  have hn10 : ∀ e ∈ L, e.nm.size ≤ maxLen := fun e he => by
    have := h.wf.names (e.nm, e.r) (List.mem_map.2 ⟨e, he, rfl⟩)
    unfold okName at this
    simp only [Bool.and_eq_true, decide_eq_true_eq] at this
    unfold maxLen
    omega
  have HNS := Lib.hid hn10
  clear h hwf hD0 hn10
  go_enter Tryz.func15, Tryz.ntmps15
  go_wp2_with (at_range; refine wpList_range_own _ rfl _ 62 rfl 9 83 law Tryz.underlying62 ptrElem b (nb L).length (D (nb L)) rfl hown ?_; intro w0 hrg0 hg0 hs0)
  go_frame
  have e1 : (w.alloc (.cells #[.int .i64 room, .map none] 64)).heap.size = w.heap.size + 1 := by simp
  rw [e1] at hrg0 hs0
  obtain ⟨dB, hdB⟩ : ∃ dB, w.heap.size = dB := ⟨_, rfl⟩
  obtain ⟨r, hr⟩ : ∃ r, w.heap.size + 1 = r := ⟨_, rfl⟩
  have HR : Hid (w.heap.size = dB ∧ w.heap.size + 1 = r) := Lib.hid ⟨hdB, hr⟩
  have hD1 : RepL w0 dB room none [] := by
    rw [← hdB]
    exact HD0.out.kept (fun k hk => hg0.block k (HD0.out.lt k hk) (by simp))
  have hb0 : Below w.heap.size w w0 := ((Below.refl _ _).alloc (Nat.le_refl _) (.cells #[.int .i64 room, .map none] 64)).grown hg0 (by simp) (by simp)
  rw [e1, hr, hdB]
  rw [hr] at hrg0 hs0
  have hstart : TearRel w room L n b r (nb L).length dB w0 := by
    refine ⟨_, _, none, [], hrg0, ?_, ?_, ?_, hb0, by omega⟩
    · rw [came_start]; exact hD1
    · rw [came_start]; exact .refl _
    · intro k hk
      have : k = dB := by simpa [foots] using hk
      omega
  have HST := Lib.hid hstart
  have hdr : dB ≠ r := by omega
  clear hdB hr hD1 hb0 hrg0 hg0 hs0 hstart hown c0 c1 d1 e1
  go_loopw [8] (fun _ wr => TearRel w room L n b r (nb L).length dB wr) (fun _ wr => wr.rangeLeft b r)
  case atStart => exact HST.out
  case round =>
    obtain ⟨left, cnt, md, Ld, hrg, hD, hp, hf, hb, hrl⟩ := hrel
    have HX := Lib.hid (And.intro hrg (And.intro hD (And.intro hp (And.intro hf (And.intro hb hrl)))))
    clear hrg hD hp hf hb hrl
    go_wp2_with (at_next; refine wpList_next_ch rfl _ rfl (names_nb HH.out) HNS.out rfl HX.out.1 ?_ ?_)
    · intro hl0
      go_wp2
      go_ret
      obtain ⟨hrg, hD, hp, hf, hb, hrl⟩ := HX.out
      rw [came_end hl0] at hD hp
      obtain ⟨L', hp', hab⟩ := perm_map_inv hp Ld rfl
      refine ⟨?_, foots dB md L', ⟨md, L', ?_, hab.symm, ?_⟩, ?_, hb⟩
      · rw [HR.out.1]; rfl
      · rw [HR.out.1]; exact hD.perm hp'
      · rw [HR.out.1]
      · intro k hk
        refine (hf k ?_).1
        unfold foots at hk ⊢
        rcases List.mem_cons.1 hk with h1 | h1
        · rw [h1]; simp
        · rcases List.mem_append.1 h1 with h1 | h1
          · exact List.mem_cons_of_mem _ (List.mem_append_left _ h1)
          · obtain ⟨x, hx, hkx⟩ := List.mem_flatMap.1 h1
            exact List.mem_cons_of_mem _ (List.mem_append_right _ (List.mem_flatMap.2 ⟨x, hp'.mem_iff.2 hx, hkx⟩))
    · intro e he hle w1 cnt1 hrg1 hlt hg1 hs1 hen
      have hgb : Below w.heap.size w w1 := HX.out.2.2.2.2.1.grown hg1 HX.out.2.2.2.2.1.size (fun k hk => by cases hk; have := HR.out; omega)
      have hE : EnAt w1 e := (HH.out.ens e he).kept (fun k hk => hgb.block k (HH.out.elt he hk))
      have hD1 : RepL w1 dB (tRoom room (ab (came L left)) n) md Ld := HX.out.2.1.kept (fun k hk => hg1.block k (HX.out.2.1.lt k hk) (fun e2 => (HX.out.2.2.2.1 k hk).2 (Option.some.inj e2)))
      have hpr : e.r.p ≤ e.r.t.size := HH.out.wf.pressed (e.nm, e.r) (List.mem_map.2 ⟨e, he, rfl⟩)
      have hts : e.r.t.size ≤ total (ab L) := total_le (e := (e.nm, e.r)) (List.mem_map.2 ⟨e, he, rfl⟩ : (e.nm, e.r) ∈ ab L)
      have hrm := HH.out.wf.room
      simp only at hrm
      have hsz : e.r.t.size ≤ 1048576 := by omega
      have hst := stays_le e.r n hpr
      have hrd : tRoom room (ab (came L left)) n + (e.r.t.size - stays e.r n) ≤ 1048576 := by
        have h1 := (tRoom_wf (wf_sub HH.out.wf (came_sub L (fun z => left z && !z.sameKey (kl e.nm)))) n).room
        have h2 : tRoom room (ab (came L (fun z => left z && !z.sameKey (kl e.nm)))) n = tRoom room ((e.nm, e.r) :: ab (came L left)) n := tRoom_perm (ab_perm (came_step HH.out he hle))
        simp only at h1
        rw [h2, tRoom_cons] at h1
        simp only at h1
        omega
      have hnn : e.nm.size ≤ 10 := by
        have := HH.out.wf.names (e.nm, e.r) (List.mem_map.2 ⟨e, he, rfl⟩)
        unfold okName at this
        simp only [Bool.and_eq_true, decide_eq_true_eq] at this
        exact this.1.2
      have HS := Lib.hid (stays_p hE hpr hsz n)
      have hLd : Ld.length ≤ 1000000 := by
        have h1 := HX.out.2.2.1.length_eq
        unfold tRolls at h1
        have h2 := List.length_filterMap_le (fun e : ByteArray × Rl => (torn e.2 n).map fun r => (e.1, r)) (ab (came L left))
        have h3 : (ab (came L left)).length ≤ L.length := by unfold ab came; rw [List.length_map]; exact List.length_filter_le _ _
        rw [show (ab Ld).length = Ld.length by unfold ab; rw [List.length_map]] at h1
        omega
      have hnot : ∀ x ∈ Ld, x.nm ≠ e.nm := fun x hx e2 => by
        have h1 : (x.nm, x.r) ∈ tRolls (ab (came L left)) n := HX.out.2.2.1.mem_iff.1 (List.mem_map.2 ⟨x, hx, rfl⟩)
        have h2 := (names_tear (ab (came L left)) n).subset (List.mem_map.2 ⟨_, h1, rfl⟩)
        obtain ⟨y, hy, h3⟩ := List.mem_map.1 h2
        obtain ⟨z, hz, rfl⟩ := List.mem_map.1 hy
        exact came_not HH.out he hle z hz (h3.trans e2)
      obtain ⟨ad, cap, hv⟩ := text_shape hE.2
      have HEV := Lib.hid hv
      have HT : Hid (Text w1 (.slice ad e.r.t.size cap) e.r.t) := Lib.hid (by rw [← hv]; exact hE.2)
      obtain ⟨⟨r0, r1, r2⟩, _, _, _⟩ := hE.1
      rw [hv] at r0
      have hdw : dB < w1.heap.size := hD1.ch.lt
      obtain ⟨⟨d0, d1⟩, f0, f1⟩ := hD1.ch
      have hrb : dB ≠ e.rb := by
        have h1 := HH.out.elt he (rb_mem e)
        have := HR.out
        omega
      obtain ⟨S, hS⟩ : ∃ S, stays e.r n = S := ⟨_, rfl⟩
      obtain ⟨rd, hrdd⟩ : ∃ rd, tRoom room (ab (came L left)) n = rd := ⟨_, rfl⟩
      rw [hS] at hst hrd HS
      rw [hrdd] at hrd d0
      have HD1 := Lib.hid (And.intro hD1 (And.intro hS hrdd))
      have HG := Lib.hid (And.intro hrg1 (And.intro hgb (And.intro hnot (And.intro hLd hlt))))
      have hrl1 : r < w1.heap.size := Nat.lt_of_lt_of_le HX.out.2.2.2.2.2 hg1.size
      have HZ : ∀ w2 : World, (∃ k, w2 = w1.drewN k) → Hid ((w2.setCell ⟨dB, 0, none⟩ (.int .i64 ((rd : Int) + ((e.r.t.size : Int) - (S : Int))))).drew.ranges Tryz.prog 9 ptrElem b r (nb L).length (D (nb L)) (fun z => left z && !z.sameKey (kl e.nm)) cnt1 ∧ RepL (w2.setCell ⟨dB, 0, none⟩ (.int .i64 ((rd : Int) + ((e.r.t.size : Int) - (S : Int))))).drew dB (rd + (e.r.t.size - S)) md Ld ∧ rd + (e.r.t.size - S) = tRoom room (ab (came L (fun z => left z && !z.sameKey (kl e.nm)))) n ∧ Below w.heap.size w (w2.setCell ⟨dB, 0, none⟩ (.int .i64 ((rd : Int) + ((e.r.t.size : Int) - (S : Int))))).drew ∧ r < (w2.setCell ⟨dB, 0, none⟩ (.int .i64 ((rd : Int) + ((e.r.t.size : Int) - (S : Int))))).drew.heap.size) := by
        rintro _ ⟨k2, rfl⟩
        have e2 : ((rd + (e.r.t.size - S) : Nat) : Int) = (rd : Int) + ((e.r.t.size : Int) - (S : Int)) := by omega
        refine Lib.hid (tear_skip HH.out he hle hrg1 hD1 HX.out.2.2.1 HX.out.2.2.2.1 hgb hrl1 hbw (by rw [hS, hrdd]) ?_ (fun k _ hk => ?_) ?_)
        · rw [ChAt, e2]
          refine ⟨⟨?_, ?_⟩, ?_, ?_⟩ <;> go_simp
        · exact Below.heap_setCell _ _ _ _ hk
        · exact ((⟨rfl, rfl, rfl, Nat.le_refl _, fun _ _ _ => rfl⟩ : Only [dB] w1 (w1.drewN k2)).setCell (.inl (by simp)) _).drew
      have HG := Lib.hid (And.intro hnot (And.intro hLd (And.intro hlt (And.intro hle hS))))
      have HMM : Hid (cnt1 < cnt) := Lib.hid hlt
      have m1 : IntKind.i64.wrap ((e.r.t.size : Int) - (S : Int)) = (e.r.t.size : Int) - (S : Int) := IntWalk.i64_in _ (by omega)
      have m2 : IntKind.i64.wrap ((rd : Int) + ((e.r.t.size : Int) - (S : Int))) = (rd : Int) + ((e.r.t.size : Int) - (S : Int)) := IntWalk.i64_in _ (by omega)
      clear hgb hE hD1 hpr hts hrm hv hS hrdd hLd hnot hg1 hs1 hrg1 hle hlt d1 f1
      by_cases hC : S = 0 ∧ e.r.s = false
      · obtain ⟨hC1, hC2⟩ := hC
        have hno : torn e.r n = none := by unfold torn; rw [HG.out.2.2.2.2, if_neg (by rw [hC2]; simp; omega)]
        have hb0 : decide (0 < S) = false := by rw [hC1]; rfl
        clear hC1
        have HNO := Lib.hid hno
        clear hno
        have hsf := Lib.hid hC2
        clear hC2
        go_wp2_with (go_at_call 41; refine HS.out.mono ?_; rintro _ w2 ⟨rfl, hk2⟩; have hz := Lib.hid (HZ w2 hk2).out; have hh : w2.heap = w1.heap := (by obtain ⟨k, hk⟩ := hk2; rw [hk]; rfl); have hcc : ∀ a, w2.cell? a = w1.cell? a := (fun a => by unfold World.cell?; rw [hh]); have hff : ∀ a, w2.frozen? a = w1.frozen? a := (fun a => by unfold World.frozen?; rw [hh]); have v0 : w2.cell? ⟨dB, 0, none⟩ = some (.int .i64 (rd : Int)) := (by rw [hcc]; exact d0); have v1 : w2.frozen? ⟨dB, 0, none⟩ = false := (by rw [hff]; exact f0); have v2 : w2.cell? ⟨e.rb, 0, none⟩ = some (.slice ad e.r.t.size cap) := (by rw [hcc]; exact r0); have v3 : w2.cell? ⟨e.rb, 2, none⟩ = some (.bool e.r.s) := (by rw [hcc]; exact r2); have HH2 := Lib.hid hh; clear hh hk2 hcc hff; rw [hsf.out] at v3)
        go_still_tail 14, (by kernel_rfl)
        go_wp2
        go_roundw
        case rel => exact tear_skip_rel HH.out he HG.out.2.2.2.1 HX.out.2.2.1 HX.out.2.2.2.1 HNO.out hz.out
        case measure => rw [World.ranges.left_eq hz.out.1, World.ranges.left_eq HX.out.1]; exact HMM.out
      · have hput : 0 < S ∨ e.r.s = true := by
          rcases Nat.eq_zero_or_pos S with h1 | h1
          · right
            cases h2 : e.r.s with
            | true => rfl
            | false => exact absurd ⟨h1, h2⟩ hC
          · exact .inl h1
        have HPUT := Lib.hid hput
        have hcases : (0 < S) ∨ (decide (0 < S) = false ∧ e.r.s = true) := by
          rcases Nat.eq_zero_or_pos S with h1 | h1
          · right
            rcases hput with h2 | h2
            · omega
            · exact ⟨by rw [h1]; rfl, h2⟩
          · exact .inl h1
        have htx : (ad = none ∧ cap = 0 ∧ e.r.t.size = 0) ∨ ∃ g, ad = some ⟨g, 0, none⟩ ∧ e.r.t.size ≤ cap ∧ cap ≤ maxLen := by
          rcases HT.out.2 with ⟨h1, h2⟩ | ⟨g, cap', cur, h1, _, _, h2, h3, _⟩
          · injection h1 with q1 q2 q3; exact .inl ⟨q1, q3, h2⟩
          · injection h1 with q1 q2 q3; exact .inr ⟨g, q1, by omega, by omega⟩
        have hcut : Text w1 (.slice ad S cap) (e.r.t.extract 0 S) := by
          rcases htx with ⟨h1, h2, h3⟩ | ⟨g, h1, h2, h3⟩
          · have h4 : S = 0 := by omega
            have h5 : e.r.t.extract 0 0 = e.r.t := by
              have := extract_all e.r.t
              rw [h3] at this
              exact this
            have := HT.out
            rw [h4, h5, ← h3]
            exact this
          · have := HT.out
            rw [h1] at this ⊢
            exact text_cut this S hst.2
        have HCUT := Lib.hid hcut
        have ez : (e.r.t.extract 0 S).size = S := by rw [ByteArray.size_extract]; omega
        have EZ := Lib.hid ez
        clear hput hC hcut ez
        rcases htx with ⟨rfl, rfl, hT0⟩ | ⟨g, rfl, hT0, hT1⟩ <;> rcases hcases with hS0 | ⟨hS0, hsu⟩
        · exfalso; omega
        · have hsf := Lib.hid hsu
          clear hsu
          have hq : (e.r.t.size : Int) + 5 < 6 := by omega
          clear hT0
          go_wp2_with (go_at_call 41; refine HS.out.mono ?_; rintro _ w2 ⟨rfl, hk2⟩; have hz := Lib.hid (HZ w2 hk2).out; have hh : w2.heap = w1.heap := (by obtain ⟨k, hk⟩ := hk2; rw [hk]; rfl); have hcc : ∀ a, w2.cell? a = w1.cell? a := (fun a => by unfold World.cell?; rw [hh]); have hff : ∀ a, w2.frozen? a = w1.frozen? a := (fun a => by unfold World.frozen?; rw [hh]); have v0 : w2.cell? ⟨dB, 0, none⟩ = some (.int .i64 (rd : Int)) := (by rw [hcc]; exact d0); have v1 : w2.frozen? ⟨dB, 0, none⟩ = false := (by rw [hff]; exact f0); have v2 : w2.cell? ⟨e.rb, 0, none⟩ = some (.slice none e.r.t.size 0) := (by rw [hcc]; exact r0); have v3 : w2.cell? ⟨e.rb, 2, none⟩ = some (.bool e.r.s) := (by rw [hcc]; exact r2); have HH2 := Lib.hid hh; clear hh hk2 hcc hff; rw [hsf.out] at v3)
          go_still_tail 14, (by kernel_rfl)
          have ht3 : Text (w2.setCell ⟨dB, 0, none⟩ (.int .i64 ((rd : Int) + ((e.r.t.size : Int) - (S : Int))))).drew (.slice none S 0) (e.r.t.extract 0 S) := HCUT.out.kept (fun g' hg' => by
            have h1 : g' < w.heap.size := HH.out.elt he (by have h2 := HEV.out; unfold En.foot; rw [h2]; simp [show (Value.slice none e.r.t.size 0).ownBlock = some g' from hg'])
            have h2 := HR.out
            show (w2.setCell ⟨dB, 0, none⟩ _).heap[g']? = _
            rw [Below.heap_setCell _ _ _ _ (by simp only; omega), HH2.out])
          go_wp2_with (first
            | (go_at_call 43; refine (copied_p ht3 (by rw [EZ.out]; omega)).mono ?_; rintro _ w4 ⟨v', rfl, ht4, hb4, hl4⟩; obtain ⟨ad', cap', rfl⟩ := text_shape ht4; rw [EZ.out] at ht4 hl4 ⊢
               have hD5 : RepL (w4.alloc (.cells #[.slice ad' S cap', .int .i64 (S : Int), .bool true] 87)) dB (rd + (e.r.t.size - S)) md Ld := hz.out.2.1.kept (fun k hk => by rw [Below.heap_alloc _ _ _ (Nat.lt_of_lt_of_le (hz.out.2.1.lt k hk) hb4.size), hb4.block k (hz.out.2.1.lt k hk)])
               have H5 := Lib.hid (And.intro hD5 (And.intro ht4 (And.intro hb4 hl4)))
               clear hD5 ht4 hb4 hl4)
            | (go_at_call 42; refine (rput_p H5.out.1.ch H5.out.1.map (names_nb H5.out.1) H5.out.1.apart.cm e.nm (by omega) (by rw [nb, List.length_map]; exact HG.out.2.1) w4.heap.size).mono ?_; rintro _ w6 ⟨b3, rfl, hc6, hm6, ho6, hb6⟩
               have H6 := Lib.hid (And.intro hc6 (And.intro hm6 (And.intro ho6 hb6)))
               clear hc6 hm6 ho6 hb6))
          have hfil : (nb Ld).filter (fun x => decide (x.1 ≠ e.nm)) = nb Ld := List.filter_eq_self.2 (fun x hx => by
            obtain ⟨y, hy, rfl⟩ := List.mem_map.1 hx
            simpa using HG.out.1 y hy)
          obtain ⟨hc6, hm6, ho6, hb6⟩ := H6.out
          rw [hfil] at hm6
          have hsz4 : (w4.alloc (.cells #[.slice ad' S cap', .int .i64 (S : Int), .bool true] 87)).heap.size = w4.heap.size + 1 := by simp
          rw [hsz4] at hb6
          have hend := tear_put_rel HH.out he HG.out.2.2.2.1 HX.out.2.2.1 HX.out.2.2.2.1 hbw hz.out HG.out.2.2.2.2 HPUT.out H5.out.2.1 H5.out.2.2.1 H5.out.2.2.2 hc6 hm6 ho6 hb6
          have HEND := Lib.hid hend
          clear hend hc6 hm6 ho6 hb6 hfil hsz4
          go_roundw
          case rel => exact HEND.out.1
          case measure => rw [World.ranges.left_eq HEND.out.2, World.ranges.left_eq HX.out.1]; exact HMM.out

        · go_wp2_with (go_at_call 41; refine HS.out.mono ?_; rintro _ w2 ⟨rfl, hk2⟩; have hz := Lib.hid (HZ w2 hk2).out; have hh : w2.heap = w1.heap := (by obtain ⟨k, hk⟩ := hk2; rw [hk]; rfl); have hcc : ∀ a, w2.cell? a = w1.cell? a := (fun a => by unfold World.cell?; rw [hh]); have hff : ∀ a, w2.frozen? a = w1.frozen? a := (fun a => by unfold World.frozen?; rw [hh]); have v0 : w2.cell? ⟨dB, 0, none⟩ = some (.int .i64 (rd : Int)) := (by rw [hcc]; exact d0); have v1 : w2.frozen? ⟨dB, 0, none⟩ = false := (by rw [hff]; exact f0); have v2 : w2.cell? ⟨e.rb, 0, none⟩ = some (.slice (some ⟨g, 0, none⟩) e.r.t.size cap) := (by rw [hcc]; exact r0); have v3 : w2.cell? ⟨e.rb, 2, none⟩ = some (.bool e.r.s) := (by rw [hcc]; exact r2); have HH2 := Lib.hid hh; clear hh hk2 hcc hff)
          go_still_tail 14, (by kernel_rfl)
          have ht3 : Text (w2.setCell ⟨dB, 0, none⟩ (.int .i64 ((rd : Int) + ((e.r.t.size : Int) - (S : Int))))).drew (.slice (some ⟨g, 0, none⟩) S cap) (e.r.t.extract 0 S) := HCUT.out.kept (fun g' hg' => by
            have h1 : g' < w.heap.size := HH.out.elt he (by have h2 := HEV.out; unfold En.foot; rw [h2]; simp [show (Value.slice (some ⟨g, 0, none⟩) e.r.t.size cap).ownBlock = some g' from hg'])
            have h2 := HR.out
            show (w2.setCell ⟨dB, 0, none⟩ _).heap[g']? = _
            rw [Below.heap_setCell _ _ _ _ (by simp only; omega), HH2.out])
          go_wp2_with (first
            | (go_at_call 43; refine (copied_p ht3 (by rw [EZ.out]; omega)).mono ?_; rintro _ w4 ⟨v', rfl, ht4, hb4, hl4⟩; obtain ⟨ad', cap', rfl⟩ := text_shape ht4; rw [EZ.out] at ht4 hl4 ⊢
               have hD5 : RepL (w4.alloc (.cells #[.slice ad' S cap', .int .i64 (S : Int), .bool true] 87)) dB (rd + (e.r.t.size - S)) md Ld := hz.out.2.1.kept (fun k hk => by rw [Below.heap_alloc _ _ _ (Nat.lt_of_lt_of_le (hz.out.2.1.lt k hk) hb4.size), hb4.block k (hz.out.2.1.lt k hk)])
               have H5 := Lib.hid (And.intro hD5 (And.intro ht4 (And.intro hb4 hl4)))
               clear hD5 ht4 hb4 hl4)
            | (go_at_call 42; refine (rput_p H5.out.1.ch H5.out.1.map (names_nb H5.out.1) H5.out.1.apart.cm e.nm (by omega) (by rw [nb, List.length_map]; exact HG.out.2.1) w4.heap.size).mono ?_; rintro _ w6 ⟨b3, rfl, hc6, hm6, ho6, hb6⟩
               have H6 := Lib.hid (And.intro hc6 (And.intro hm6 (And.intro ho6 hb6)))
               clear hc6 hm6 ho6 hb6))
          have hfil : (nb Ld).filter (fun x => decide (x.1 ≠ e.nm)) = nb Ld := List.filter_eq_self.2 (fun x hx => by
            obtain ⟨y, hy, rfl⟩ := List.mem_map.1 hx
            simpa using HG.out.1 y hy)
          obtain ⟨hc6, hm6, ho6, hb6⟩ := H6.out
          rw [hfil] at hm6
          have hsz4 : (w4.alloc (.cells #[.slice ad' S cap', .int .i64 (S : Int), .bool true] 87)).heap.size = w4.heap.size + 1 := by simp
          rw [hsz4] at hb6
          have hend := tear_put_rel HH.out he HG.out.2.2.2.1 HX.out.2.2.1 HX.out.2.2.2.1 hbw hz.out HG.out.2.2.2.2 HPUT.out H5.out.2.1 H5.out.2.2.1 H5.out.2.2.2 hc6 hm6 ho6 hb6
          have HEND := Lib.hid hend
          clear hend hc6 hm6 ho6 hb6 hfil hsz4
          go_roundw
          case rel => exact HEND.out.1
          case measure => rw [World.ranges.left_eq HEND.out.2, World.ranges.left_eq HX.out.1]; exact HMM.out

        · have hsf := Lib.hid hsu
          clear hsu
          go_wp2_with (go_at_call 41; refine HS.out.mono ?_; rintro _ w2 ⟨rfl, hk2⟩; have hz := Lib.hid (HZ w2 hk2).out; have hh : w2.heap = w1.heap := (by obtain ⟨k, hk⟩ := hk2; rw [hk]; rfl); have hcc : ∀ a, w2.cell? a = w1.cell? a := (fun a => by unfold World.cell?; rw [hh]); have hff : ∀ a, w2.frozen? a = w1.frozen? a := (fun a => by unfold World.frozen?; rw [hh]); have v0 : w2.cell? ⟨dB, 0, none⟩ = some (.int .i64 (rd : Int)) := (by rw [hcc]; exact d0); have v1 : w2.frozen? ⟨dB, 0, none⟩ = false := (by rw [hff]; exact f0); have v2 : w2.cell? ⟨e.rb, 0, none⟩ = some (.slice (some ⟨g, 0, none⟩) e.r.t.size cap) := (by rw [hcc]; exact r0); have v3 : w2.cell? ⟨e.rb, 2, none⟩ = some (.bool e.r.s) := (by rw [hcc]; exact r2); have HH2 := Lib.hid hh; clear hh hk2 hcc hff; rw [hsf.out] at v3)
          go_still_tail 14, (by kernel_rfl)
          have ht3 : Text (w2.setCell ⟨dB, 0, none⟩ (.int .i64 ((rd : Int) + ((e.r.t.size : Int) - (S : Int))))).drew (.slice (some ⟨g, 0, none⟩) S cap) (e.r.t.extract 0 S) := HCUT.out.kept (fun g' hg' => by
            have h1 : g' < w.heap.size := HH.out.elt he (by have h2 := HEV.out; unfold En.foot; rw [h2]; simp [show (Value.slice (some ⟨g, 0, none⟩) e.r.t.size cap).ownBlock = some g' from hg'])
            have h2 := HR.out
            show (w2.setCell ⟨dB, 0, none⟩ _).heap[g']? = _
            rw [Below.heap_setCell _ _ _ _ (by simp only; omega), HH2.out])
          go_wp2_with (first
            | (go_at_call 43; refine (copied_p ht3 (by rw [EZ.out]; omega)).mono ?_; rintro _ w4 ⟨v', rfl, ht4, hb4, hl4⟩; obtain ⟨ad', cap', rfl⟩ := text_shape ht4; rw [EZ.out] at ht4 hl4 ⊢
               have hD5 : RepL (w4.alloc (.cells #[.slice ad' S cap', .int .i64 (S : Int), .bool true] 87)) dB (rd + (e.r.t.size - S)) md Ld := hz.out.2.1.kept (fun k hk => by rw [Below.heap_alloc _ _ _ (Nat.lt_of_lt_of_le (hz.out.2.1.lt k hk) hb4.size), hb4.block k (hz.out.2.1.lt k hk)])
               have H5 := Lib.hid (And.intro hD5 (And.intro ht4 (And.intro hb4 hl4)))
               clear hD5 ht4 hb4 hl4)
            | (go_at_call 42; refine (rput_p H5.out.1.ch H5.out.1.map (names_nb H5.out.1) H5.out.1.apart.cm e.nm (by omega) (by rw [nb, List.length_map]; exact HG.out.2.1) w4.heap.size).mono ?_; rintro _ w6 ⟨b3, rfl, hc6, hm6, ho6, hb6⟩
               have H6 := Lib.hid (And.intro hc6 (And.intro hm6 (And.intro ho6 hb6)))
               clear hc6 hm6 ho6 hb6))
          have hfil : (nb Ld).filter (fun x => decide (x.1 ≠ e.nm)) = nb Ld := List.filter_eq_self.2 (fun x hx => by
            obtain ⟨y, hy, rfl⟩ := List.mem_map.1 hx
            simpa using HG.out.1 y hy)
          obtain ⟨hc6, hm6, ho6, hb6⟩ := H6.out
          rw [hfil] at hm6
          have hsz4 : (w4.alloc (.cells #[.slice ad' S cap', .int .i64 (S : Int), .bool true] 87)).heap.size = w4.heap.size + 1 := by simp
          rw [hsz4] at hb6
          have hend := tear_put_rel HH.out he HG.out.2.2.2.1 HX.out.2.2.1 HX.out.2.2.2.1 hbw hz.out HG.out.2.2.2.2 HPUT.out H5.out.2.1 H5.out.2.2.1 H5.out.2.2.2 hc6 hm6 ho6 hb6
          have HEND := Lib.hid hend
          clear hend hc6 hm6 ho6 hb6 hfil hsz4
          go_roundw
          case rel => exact HEND.out.1
          case measure => rw [World.ranges.left_eq HEND.out.2, World.ranges.left_eq HX.out.1]; exact HMM.out
end Go.Proofs.YtaacdggjkfmehaaGreatDoor
