/-
  Contracts of the program, and what they rest on.
-/
import Derived.Test.YtaacdggjkfmehaaGreatDoorM15
import Derived.Test.YtaacdggjkfmehaaGreatDoorM13
namespace Go.Proofs.YtaacdggjkfmehaaGreatDoor
open Go.RowKit Go.Proofs.Flo Go.Proofs.Cpl
set_option maxRecDepth 100000 in
set_option maxHeartbeats 4000000 in
theorem jmark_p (s : ByteArray) (hs : s.size ≤ 10000000) (w : World) (h : LibAt w) :
    Calls Tryz.prog 95 #[.string s] w fun e w' => e = .returned (.string (markS s)) ∧ Below w.heap.size w w' := by
  have v1 := conv_str s
  have M := Lib.hid (fun b n cap hn => mark_str s b n cap _ rfl hn (by unfold maxLen; omega))
  have hok : Ok (gon (0, 1) s.data.toList) := ok_gon ok_i _
  have HT := Lib.hid h.1
  unfold markS
  generalize gon (0, 1) s.data.toList = G at *
  clear h
  go_enter Tryz.func95, Tryz.ntmps95
  go_wp2_with fail
  refine (M.out w.heap.size _ _ rfl _ (bytesAt_str _ _ _)).mono ?_
  rintro _ w' ⟨rfl, rfl⟩
  have hb1 := Lib.bytesWorld_below w 5 s
  generalize Lib.bytesWorld w 5 s = w1 at *
  go_wp2_with fail
  refine (gtext G hok w1 (HT.out.below hb1)).mono ?_
  rintro _ w2 ⟨rfl, hb2⟩
  go_wp2_with fail
  go_ret
  exact ⟨rfl, hb1.trans (hb2.mono hb1.size)⟩
theorem put_str (s : ByteArray) : putS 2 0 s .nil = frameS s ⟨#[44]⟩ := by
  have : vmay 2 0 s .nil = true := rfl
  unfold putS
  rw [this]
  rfl
set_option maxRecDepth 100000 in
set_option maxHeartbeats 4000000 in
theorem jleaf_p (s : ByteArray) (w : World) (h : LibAt w) :
    Calls Tryz.prog 69 #[.string s] w fun e w' => e = .returned (.string (leafS s)) ∧ Below w.heap.size w w' := by
  have HL := Lib.hid h
  unfold leafS
  by_cases hs : 400000 < s.size
  · rw [if_pos hs]
    have hs' : (400000 : Int) < (s.size : Int) := by omega
    clear h
    go_enter Tryz.func69, Tryz.ntmps69
    go_wp2_with fail
    go_ret
    exact ⟨rfl, Below.refl _ _⟩
  · rw [if_neg hs]
    have hs' : ¬ (400000 : Int) < (s.size : Int) := by omega
    have hj : ¬ 9223372036854775807 < (markS s).size + (frameS s ⟨#[44]⟩).size := by
      have h1 := markS_size s
      have h2 := frameS_size s ⟨#[44]⟩
      have h3 : (⟨#[44]⟩ : ByteArray).size = 1 := rfl
      omega
    have M := Lib.hid (jmark_p s (by omega) w h)
    have P := Lib.hid (fun w1 (hp : PowAt w1) => Put_p 2 0 s .nil none 0 w1 hp (by omega) (by trivial) (.inl rfl))
    clear h
    go_enter Tryz.func69, Tryz.ntmps69
    go_wp2_with fail
    refine M.out.mono ?_
    rintro _ w1 ⟨rfl, hb1⟩
    go_wp2_with fail
    refine (P.out w1 (HL.out.below hb1).2.2.2).mono ?_
    rintro _ w2 ⟨rfl, hb2⟩
    rw [put_str]
    go_wp2_with fail
    go_ret
    exact ⟨rfl, hb1.trans (hb2.mono hb1.size)⟩
set_option maxRecDepth 100000 in
set_option maxHeartbeats 4000000 in
theorem jmarked_p (s : ByteArray) (w : World) (h : LibAt w) :
    Calls Tryz.prog 93 #[.string s] w fun e w' => e = .returned (.bool (markedB (padS s))) ∧ Below w.heap.size w w' := by
  have hR : Calls Tryz.prog 105 #[.string (padS s)] w fun e w' => ∃ x y, e = .returned (.tuple #[.complex .f64 x y, .bool (markedB (padS s))]) ∧ Below w.heap.size w w' := by
    cases hm : markedB (padS s) with
    | true =>
      obtain ⟨p, hp⟩ := marked_of (padS_size s) hm
      exact (gread_yes _ p hp w h.1 h.2.1).mono fun e w' ⟨h1, h2⟩ => ⟨_, _, h1, h2⟩
    | false =>
      exact (gread_no _ (marked_no hm) w h.1 h.2.1).mono fun e w' ⟨h1, h2⟩ => ⟨_, _, h1, h2⟩
  obtain ⟨R, hRR⟩ : ∃ R, markedB (padS s) = R := ⟨_, rfl⟩
  rw [hRR] at hR ⊢
  clear hRR h
  have hp : padS s = s.extract 0 (min s.size 8) ++ noughts8.extract (min s.size 8) 8 := rfl
  rw [hp] at hR
  clear hp
  unfold noughts8 at hR
  have hb0 : (0 : Int) ≤ min (s.size : Int) (8 : Int) := by omega
  have hb1 : min (s.size : Int) (8 : Int) ≤ (s.size : Int) := by omega
  have hm : (min (s.size : Int) (8 : Int)).toNat = min s.size 8 := by omega
  have hz : (s.extract 0 (min s.size 8)).size = min s.size 8 := by rw [ByteArray.size_extract]; omega
  have hb2 : min (s.size : Int) (8 : Int) ≤ 8 := by omega
  have hm2 : ((min s.size 8 : Nat) : Int) ≤ 8 := by omega
  have HR := Lib.hid hR
  clear hR
  go_enter Tryz.func93, Tryz.ntmps93
  go_wp2_with fail
  refine HR.out.mono ?_
  rintro _ w1 ⟨x, y, rfl, hb⟩
  go_wp2_with fail
  go_ret
  exact ⟨rfl, hb⟩
end Go.Proofs.YtaacdggjkfmehaaGreatDoor
namespace Go.Proofs.YtaacdggjkfmehaaGreatDoor
open Go.RowKit Go.Proofs.Flo Go.Proofs.Cpl
theorem get_text {t : ByteArray} {x : G} (h : getR t = .ok x) (hk : x.k = 2) : x.s = (cutP t).1 ∧ (cutP t).2.2 = 0 := by
  unfold getR at h
  rw [getP] at h
  split at h
  · rename_i h0
    refine ⟨?_, h0⟩
    rw [if_neg (by decide)] at h
    simp only at h
    split at h
    · split at h
      · cases h
        simp at hk
      · cases h
    · split at h
      · cases h
        rfl
      · split at h
        · split at h
          · cases h
            simp at hk
          · cases h
        · cases h
  · cases h
set_option maxRecDepth 100000 in
set_option maxHeartbeats 4000000 in
theorem jturn_p (s : ByteArray) (hs : s.size ≤ 9000000) (w : World) (h : LibAt w) :
    Calls Tryz.prog 68 #[.string s] w fun e w' => e = .returned (.tuple #[.string (turnS s).1, .int .i64 ((turnS s).2.1 : Nat), .int .i64 (turnS s).2.2]) ∧ Below w.heap.size w w' := by
  have HL := Lib.hid h
  have M := Lib.hid (jmarked_p s w h)
  cases hm : markedB (padS s) with
  | false =>
    have e1 : turnS s = (⟨#[]⟩, 0, 3) := by unfold turnS; rw [hm, if_pos rfl]
    rw [e1]
    rw [hm] at M
    clear h hm e1
    go_enter Tryz.func68, Tryz.ntmps68
    go_wp2_with fail
    refine M.out.mono ?_
    rintro _ w1 ⟨rfl, hb1⟩
    go_wp2_with fail
    exact bodyPost_ret (v := .tuple #[.string _, .int .i64 _, .int .i64 _]) (by first | (simp [results, Tryz.results68, go_sem]; done) | (simp [results, Tryz.results68, go_sem]; exact ⟨rfl, rfl, rfl⟩)) rfl ⟨rfl, hb1⟩
  | true =>
    rw [hm] at M
    by_cases h8 : s.size < 8
    · have e1 : turnS s = (⟨#[]⟩, 0, 2) := by unfold turnS; rw [hm, if_neg (by decide), if_pos h8]
      have h8' : (s.size : Int) < 8 := by omega
      rw [e1]
      clear h hm e1
      go_enter Tryz.func68, Tryz.ntmps68
      go_wp2_with fail
      refine M.out.mono ?_
      rintro _ w1 ⟨rfl, hb1⟩
      go_wp2_with fail
      exact bodyPost_ret (v := .tuple #[.string _, .int .i64 _, .int .i64 _]) (by first | (simp [results, Tryz.results68, go_sem]; done) | (simp [results, Tryz.results68, go_sem]; exact ⟨rfl, rfl, rfl⟩)) rfl ⟨rfl, hb1⟩
    · have h8' : ¬ (s.size : Int) < 8 := by omega
      have h8'' : (8 : Int) ≤ (s.size : Int) := by omega
      have G0 := fun w1 (h1 : LibAt w1) => Get_p (s.extract 8 s.size) w1 (by rw [ByteArray.size_extract]; omega) h1
      unfold GetV at G0
      cases hg : getR (s.extract 8 s.size) with
      | error e =>
        rw [hg] at G0
        simp only at G0
        have he := getP_err 6 _ _ e hg
        have HG := Lib.hid G0
        have e1 : turnS s = (⟨#[]⟩, 0, if e = 2 then 2 else 3) := by unfold turnS; rw [hm, if_neg (by decide), if_neg h8, hg]
        rw [e1]
        clear h hm e1 G0 hg h8
        rcases he with rfl | rfl
        all_goals
          go_enter Tryz.func68, Tryz.ntmps68
          go_wp2_with fail
          refine M.out.mono ?_
          rintro _ w1 ⟨rfl, hb1⟩
          have HB1 := Lib.hid (show Below w.heap.size w w1.drew from hb1.drew)
          clear hb1
          go_wp2_with fail
          go_region
          go_wp2_with fail
          refine (HG.out w1.drew (HL.out.below HB1.out)).mono ?_
          rintro _ w2 ⟨hb2, rfl⟩
          have HB2 := Lib.hid (HB1.out.trans (hb2.mono HB1.out.size))
          clear hb2
          go_wp2_with fail
          exact bodyPost_ret (v := .tuple #[.string _, .int .i64 _, .int .i64 _]) (by first | (simp [results, Tryz.results68, go_sem]; done) | (simp [results, Tryz.results68, go_sem]; exact ⟨rfl, rfl, rfl⟩)) rfl ⟨rfl, HB2.out.alloc HB2.out.size _⟩
      | ok x =>
        rw [hg] at G0
        simp only at G0
        have HG := Lib.hid G0
        by_cases hk : x.k = 2
        · obtain ⟨t1, t2⟩ := get_text hg hk
          have t3 := (cutP_bd _ t2).2.2.1
          rw [← t1] at t3
          have J := Lib.hid (fun w1 (h1 : LibAt w1) => jmark_p x.s (by omega) w1 h1)
          by_cases hms : markS x.s = s.extract 0 8
          · have e1 : turnS s = (x.s, 8 + x.b, 0) := by unfold turnS; rw [hm, if_neg (by decide), if_neg h8, hg]; simp only; rw [if_pos ⟨hk, hms⟩]
            have hbb : x.b ≤ 9000000 := by
              have h1 := getP_bd 6 _ 6000 x hg (by decide)
              have h2 := cutP_bd _ h1.2.2
              rw [← h1.2.1, ByteArray.size_extract] at h2
              omega
            rw [e1]
            obtain ⟨k, n, xs, l, b, c⟩ := x
            simp only at hk hms HG J hbb
            subst hk
            have hwr : Hid (((min 8 s.size : Nat) : Int) + (b : Int) = ((8 + b : Nat) : Int)) := Lib.hid (by omega)
            clear h hm e1 G0 hg h8 t1 t2 t3
            rw [hms] at J
            clear hms
            go_enter Tryz.func68, Tryz.ntmps68
            go_wp2_with fail
            refine M.out.mono ?_
            rintro _ w1 ⟨rfl, hb1⟩
            have HB1 := Lib.hid (show Below w.heap.size w w1.drew from hb1.drew)
            clear hb1
            go_wp2_with fail
            go_region
            go_wp2_with fail
            refine (HG.out w1.drew (HL.out.below HB1.out)).mono ?_
            rintro _ w2 ⟨hb2, ad, cap, rfl, hr⟩
            have HB2 := Lib.hid (HB1.out.trans (hb2.mono HB1.out.size))
            clear hb2 hr
            go_wp2_with fail
            refine (J.out _ (HL.out.below (HB2.out.alloc HB2.out.size _))).mono ?_
            rintro _ w3 ⟨rfl, hb3⟩
            have HB3 := Lib.hid ((HB2.out.alloc HB2.out.size _).trans (hb3.mono (HB2.out.alloc HB2.out.size _).size))
            have y2 : w3.cell? ⟨w2.heap.size, 2, none⟩ = some (.string xs) := by rw [hb3.cell (by simp)]; go_simp
            clear hb3
            go_wp2_with fail
            refine bodyPost_ret (v := .tuple #[.string xs, .int .i64 (((min 8 s.size : Nat) : Int) + (b : Int)), .int .i64 0]) (by simp [results, Tryz.results68, go_sem]) rfl ⟨by rw [hwr.out], HB3.out⟩
          · have e1 : turnS s = (⟨#[]⟩, 0, 3) := by unfold turnS; rw [hm, if_neg (by decide), if_neg h8, hg]; simp only; rw [if_neg (fun h9 => hms h9.2)]
            have hne := not_toList hms
            rw [e1]
            obtain ⟨k, n, xs, l, b, c⟩ := x
            simp only at hk hms HG J hne
            subst hk
            clear h hm e1 G0 hg h8 t1 t2 t3 hms
            go_enter Tryz.func68, Tryz.ntmps68
            go_wp2_with fail
            refine M.out.mono ?_
            rintro _ w1 ⟨rfl, hb1⟩
            have HB1 := Lib.hid (show Below w.heap.size w w1.drew from hb1.drew)
            clear hb1
            go_wp2_with fail
            go_region
            go_wp2_with fail
            refine (HG.out w1.drew (HL.out.below HB1.out)).mono ?_
            rintro _ w2 ⟨hb2, ad, cap, rfl, hr⟩
            have HB2 := Lib.hid (HB1.out.trans (hb2.mono HB1.out.size))
            clear hb2 hr
            go_wp2_with fail
            refine (J.out _ (HL.out.below (HB2.out.alloc HB2.out.size _))).mono ?_
            rintro _ w3 ⟨rfl, hb3⟩
            have HB3 := Lib.hid ((HB2.out.alloc HB2.out.size _).trans (hb3.mono (HB2.out.alloc HB2.out.size _).size))
            have y2 : w3.cell? ⟨w2.heap.size, 2, none⟩ = some (.string xs) := by rw [hb3.cell (by simp)]; go_simp
            clear hb3
            go_wp2_with fail
            exact bodyPost_ret (v := .tuple #[.string _, .int .i64 _, .int .i64 _]) (by first | (simp [results, Tryz.results68, go_sem]; done) | (simp [results, Tryz.results68, go_sem]; exact ⟨rfl, rfl, rfl⟩)) rfl ⟨rfl, HB3.out⟩
        · have e1 : turnS s = (⟨#[]⟩, 0, 3) := by unfold turnS; rw [hm, if_neg (by decide), if_neg h8, hg]; simp only; rw [if_neg (fun h9 => hk h9.1)]
          have hne : (x.k != 2) = true := by rw [bne_iff_ne]; exact hk
          rw [e1]
          obtain ⟨k, n, xs, l, b, c⟩ := x
          simp only at hk HG hne
          clear h hm e1 G0 hg h8
          go_enter Tryz.func68, Tryz.ntmps68
          go_wp2_with fail
          refine M.out.mono ?_
          rintro _ w1 ⟨rfl, hb1⟩
          have HB1 := Lib.hid (show Below w.heap.size w w1.drew from hb1.drew)
          clear hb1
          go_wp2_with fail
          go_region
          go_wp2_with fail
          refine (HG.out w1.drew (HL.out.below HB1.out)).mono ?_
          rintro _ w2 ⟨hb2, ad, cap, rfl, hr⟩
          have HB2 := Lib.hid (HB1.out.trans (hb2.mono HB1.out.size))
          clear hb2 hr
          go_wp2_with fail
          exact bodyPost_ret (v := .tuple #[.string _, .int .i64 _, .int .i64 _]) (by first | (simp [results, Tryz.results68, go_sem]; done) | (simp [results, Tryz.results68, go_sem]; exact ⟨rfl, rfl, rfl⟩)) rfl ⟨rfl, HB2.out.alloc HB2.out.size _⟩
end Go.Proofs.YtaacdggjkfmehaaGreatDoor
namespace Go.Proofs.YtaacdggjkfmehaaGreatDoor
open Go.RowKit Go.Proofs.Flo Go.Proofs.Cpl
def TaRel (w : World) (t : ByteArray) (R : List ByteArray × Nat × Int) (lv nv : Value) (wr : World) : Prop :=
  ∃ (v : Value) (n f : Nat) (acc : List ByteArray), v = lv ∧ nv = .int .i64 n ∧ n ≤ t.size ∧ t.size - n ≤ f ∧ Recs wr lv acc ∧ (∃ g, rowOf lv = some g ∧ w.heap.size ≤ g) ∧ acc.length ≤ n ∧
    Hid (R = (acc ++ (walkS f (t.extract n t.size)).1, n + (walkS f (t.extract n t.size)).2.1, (walkS f (t.extract n t.size)).2.2)) ∧ Below w.heap.size w wr
def TaPost (w : World) (R : List ByteArray × Nat × Int) (x : Ending) (w' : World) : Prop :=
  Below w.heap.size w w' ∧ ((R.2.2 ≠ 0 ∧ x = .returned (.tuple #[.slice none 0 0, .int .i64 0, .int .i64 R.2.2])) ∨
    (R.2.2 = 0 ∧ ∃ v, x = .returned (.tuple #[v, .int .i64 (R.2.1 : Nat), .int .i64 0]) ∧ Recs w' v R.1 ∧ ∃ g, rowOf v = some g ∧ w.heap.size ≤ g))
set_option maxRecDepth 100000 in
set_option maxHeartbeats 8000000 in
theorem turnAll_p (t : ByteArray) (hs : t.size ≤ 2000000) (w : World) (h : LibAt w) :
    Calls Tryz.prog 49 #[.string t] w (TaPost w (walkS t.size t)) := by
  obtain ⟨R, hR⟩ : ∃ R, walkS t.size t = R := ⟨_, rfl⟩
  have hR0 : R = ([] ++ (walkS t.size (t.extract 0 t.size)).1, 0 + (walkS t.size (t.extract 0 t.size)).2.1, (walkS t.size (t.extract 0 t.size)).2.2) := by
    rw [extract_all, hR]
    simp
  rw [hR]
  have HR := Lib.hid hR0
  have HL := Lib.hid h
  clear hR hR0 h
  go_enter Tryz.func49, Tryz.ntmps49
  go_wp2_with fail
  go_loopw [5, 6] (fun lv nv wr => TaRel w t R lv nv wr) (fun _ nv _ => t.size - (intOf nv).toNat)
  case atStart =>
    refine ⟨_, 0, t.size, [], rfl, rfl, by omega, by omega, .inr ⟨w.heap.size, 0, 0, #[], rfl, ?_, Nat.le_refl _, by unfold maxLen; omega, Nat.le_refl _, by simp⟩, ⟨_, rfl, Nat.le_refl _⟩, Nat.le_refl _, HR, (Below.refl _ _).alloc (Nat.le_refl _) _⟩
    have h := heap_alloc_new w (.cells #[] 9)
    simpa using h
  case round =>
    obtain ⟨lv, n, f, acc, hlv, rfl, hn, hf, hrec, ⟨g, hg, hgw⟩, hacc, hH, hB⟩ := hrel
    subst hlv
    obtain ⟨T, hT⟩ : ∃ T, t.extract n t.size = T := ⟨_, rfl⟩
    have hTz : T.size = t.size - n := by rw [← hT, ByteArray.size_extract]; omega
    have hH' := hH.out
    rw [hT] at hH'
    by_cases hlt : n < t.size
    · have hlt' : (n : Int) < (t.size : Int) := by omega
      obtain ⟨f, rfl⟩ : ∃ f', f = f' + 1 := ⟨f - 1, by omega⟩
      rw [walkS, if_neg (by omega)] at hH'
      have C := jturn_p T (by omega) wr (HL.out.below hB)
      rcases turn_err T with e0 | e0 | e0
      · rw [if_pos e0] at hH'
        have bd := turn_bd e0
        rw [e0] at C
        generalize turnS T = q at *
        obtain ⟨s, k, e⟩ := q
        simp only at hH' C bd e0
        obtain ⟨b1, b2⟩ := bd
        have hx : T.extract k T.size = t.extract (n + k) t.size := by
          rw [← hT]
          apply ByteArray.ext
          apply Array.ext'
          rw [Lib.extract_data, Lib.extract_data, Lib.extract_data, ByteArray.size_extract, List.drop_take, List.drop_drop, List.take_take]
          congr 1
          omega
        rw [hx] at hH'
        have HC := Lib.hid C
        have HH := Lib.hid (And.intro hH' (And.intro hrec hB))
        have HT := Lib.hid hT
        have hs0 : 0 ≤ (n : Int) := by omega
        clear C hH' hH hrec hB hx
        go_wp2_with fail
        refine HC.out.mono ?_
        rintro _ w2 ⟨rfl, hb2⟩
        have HB2 := Lib.hid hb2
        have HR2 : Hid (∀ ty, Recs (w2.alloc (.cells #[.string s] ty)) lv acc) := Lib.hid (fun ty => (HH.out.2.1.kept (fun g hg => by
          have h1 := HH.out.2.1.lt hg
          rw [Below.heap_alloc _ _ _ (Nat.lt_of_lt_of_le h1 hb2.size)]
          exact hb2.block g h1)))
        have hcl : ∀ (W : World) (ty : TypeId), (W.alloc (.cells #[.string s] ty)).cell? ⟨W.heap.size, 0, none⟩ = some (.string s) := by
          intro W ty
          go_simp
        have HCL := Lib.hid hcl
        clear hb2 hcl
        go_wp2_with (at_builtin; refine wpList_append_recs rfl (.tmp 28) (.tmp 30) rfl lv acc rfl (HR2.out _) (by omega) ⟨w2.heap.size, 0, none⟩ 1 s rfl (HCL.out _ _) ?_; intro v' w3 hr3 hg3 hl3; have HR3 := Lib.hid (And.intro hr3 (And.intro hg3 hl3)); clear hr3 hg3 hl3)
        go_roundw
        case rel =>
          obtain ⟨hr3, hg3, hl3⟩ := HR3.out
          have hB := HH.out.2.2
          have hw2 : w.heap.size ≤ w2.heap.size := Nat.le_trans hB.size HB2.out.size
          refine ⟨_, n + k, f, acc ++ [s], rfl, by go_num, by omega, by omega, hr3, ?_, by simp; omega, Lib.hid ?_, ?_⟩
          · rcases hl3 with h | h
            · exact ⟨g, by rw [h]; exact hg, hgw⟩
            · exact ⟨_, h, by simp; omega⟩
          · rw [HH.out.1]
            simp [Nat.add_assoc]
          · refine ((hB.trans (HB2.out.mono hB.size)).alloc hw2 _).grown hg3 (by simp; omega) (fun k hk => ?_)
            rw [hg] at hk
            obtain rfl := Option.some.inj hk
            exact hgw
        case measure => simp [intOf]; omega
      · rw [if_neg (by rw [e0]; decide), if_pos e0] at hH'
        rw [e0] at C
        generalize turnS T = q at *
        obtain ⟨s, k, e⟩ := q
        simp only [List.append_nil, Nat.add_zero] at hH' C
        subst hH'
        have HC := Lib.hid C
        have HH := Lib.hid (And.intro hrec hB)
        have HT := Lib.hid hT
        have hs0 : 0 ≤ (n : Int) := by omega
        clear C hH hrec hB
        go_wp2_with fail
        refine HC.out.mono ?_
        rintro _ w2 ⟨rfl, hb2⟩
        have HB2 := Lib.hid hb2
        clear hb2
        go_wp2_with fail
        refine bodyPost_ret (v := .tuple #[lv, .int .i64 (n : Int), .int .i64 0]) (by simp [results, Tryz.results49, go_sem]) rfl ⟨HH.out.2.trans (HB2.out.mono HH.out.2.size), .inr ⟨rfl, lv, rfl, HH.out.1.kept (fun g hg => HB2.out.block g (HH.out.1.lt hg)), g, hg, hgw⟩⟩
      · rw [if_neg (by rw [e0]; decide), if_neg (by rw [e0]; decide)] at hH'
        rw [e0] at C
        generalize turnS T = q at *
        obtain ⟨s, k, e⟩ := q
        simp only [List.append_nil, Nat.add_zero] at hH' C
        subst hH'
        have HC := Lib.hid C
        have HH := Lib.hid hB
        have HT := Lib.hid hT
        have hs0 : 0 ≤ (n : Int) := by omega
        clear C hH hrec hB
        go_wp2_with fail
        refine HC.out.mono ?_
        rintro _ w2 ⟨rfl, hb2⟩
        have HB2 := Lib.hid hb2
        clear hb2
        go_wp2_with fail
        refine bodyPost_ret (v := .tuple #[.slice none 0 0, .int .i64 0, .int .i64 3]) (by simp [results, Tryz.results49, go_sem]) rfl ⟨HH.out.trans (HB2.out.mono HH.out.size), .inl ⟨(by decide : (3 : Int) ≠ 0), rfl⟩⟩
    · have hlt' : ¬ (n : Int) < (t.size : Int) := by omega
      have hw0 : walkS f T = ([], 0, 0) := by
        cases f with
        | zero => rfl
        | succ f => rw [walkS, if_pos (by omega)]
      rw [hw0] at hH'
      simp only [List.append_nil, Nat.add_zero] at hH'
      subst hH'
      have HH := Lib.hid (And.intro hrec hB)
      clear hH hrec hB
      go_wp2_with fail
      refine bodyPost_ret (v := .tuple #[lv, .int .i64 (n : Int), .int .i64 0]) (by simp [results, Tryz.results49, go_sem]) rfl ⟨HH.out.2, .inr ⟨rfl, lv, rfl, HH.out.1, g, hg, hgw⟩⟩
end Go.Proofs.YtaacdggjkfmehaaGreatDoor
namespace Go.Proofs.YtaacdggjkfmehaaGreatDoor
open Go.RowKit Go.Maps Go.Proofs.MapD Go.Proofs.Chest
section
variable {w : World} {c : Nat} {F : List Nat} {st : St}
set_option maxRecDepth 100000 in
set_option maxHeartbeats 4000000 in
theorem aside_p (h : Rep w c F st) (hL : st.l.length ≤ 1000) :
    Calls Tryz.prog 46 #[.pointer (some ⟨c, 0, none⟩)] w fun x w' => x = .returned (.int .i64 0) ∧ Turns w c F (asideS st) w' := by
  have C := rcall_p h (by omega) nNEW nOLD (by decide) (by decide)
  unfold asideS
  have he := aside_err st
  generalize call st nNEW nOLD = q at *
  obtain ⟨e, st1⟩ := q
  unfold nNEW nOLD at C
  simp only at he C
  have HC := Lib.hid C
  clear C h
  rcases he with rfl | rfl
  all_goals
    go_enter Tryz.func46, Tryz.ntmps46
    go_wp2_with fail
    refine HC.out.mono ?_
    rintro _ w1 ⟨rfl, ht⟩
    have HT := Lib.hid ht
    clear ht
    go_wp2_with fail
    go_ret
    exact ⟨rfl, HT.out⟩
set_option maxRecDepth 100000 in
set_option maxHeartbeats 4000000 in
theorem wr_p (h : Rep w c F st) (hL : st.l.length ≤ 1000) (n t : ByteArray) (hn : n.size ≤ 1000) (p : Bool) :
    Calls Tryz.prog 78 #[.pointer (some ⟨c, 0, none⟩), .string n, .string t, .bool p] w fun x w' => x = .returned (.int .i64 (wrS st n t p).1) ∧ Turns w c F (wrS st n t p).2 w' := by
  have W := write_p h (by omega) n t (by omega)
  unfold wrS
  generalize write st n t = q at *
  obtain ⟨e, st1⟩ := q
  simp only at W ⊢
  have HW := Lib.hid W
  clear W h
  by_cases he : e = 0
  · subst he
    cases p with
    | false =>
      rw [if_pos (.inr rfl)]
      go_enter Tryz.func78, Tryz.ntmps78
      go_wp2_with fail
      refine HW.out.mono ?_
      rintro _ w1 ⟨rfl, ht⟩
      have HT := Lib.hid ht
      clear ht
      go_wp2_with fail
      go_ret
      exact ⟨rfl, HT.out⟩
    | true =>
      rw [if_neg (by simp)]
      go_enter Tryz.func78, Tryz.ntmps78
      go_wp2_with fail
      refine HW.out.mono ?_
      rintro _ w1 ⟨rfl, F1, r1, k1, o1⟩
      have HO := Lib.hid (And.intro k1 o1)
      have HR := Lib.hid r1
      clear k1 o1 r1
      go_wp2_with fail
      refine (rpress_p HR.out n (by omega)).mono ?_
      rintro _ w2 ⟨rfl, ht⟩
      have HT := Lib.hid ht
      clear ht
      go_wp2_with fail
      go_ret
      exact ⟨rfl, Turns.next HO.out.1 HO.out.2 HT.out⟩
  · rw [if_pos (.inl he)]
    have he' : (e != 0) = true := by rw [bne_iff_ne]; exact he
    go_enter Tryz.func78, Tryz.ntmps78
    go_wp2_with fail
    refine HW.out.mono ?_
    rintro _ w1 ⟨rfl, ht⟩
    have HT := Lib.hid ht
    clear ht
    go_wp2_with fail
    go_ret
    exact ⟨rfl, HT.out⟩
end
theorem jc_new {w w1 : World} {c : Nat} {F F1 : List Nat} {st : St} (hF : ∀ k ∈ F1, k ∈ F ∨ w.heap.size ≤ k) (ho : Only F w w1) (hR : Rep w1 c F1 st) (r : Jr) {v : Value} (hv : Recs w1 v r.recs)
    (hd : ∀ g, rowOf v = some g → g ∉ F1 ∧ w.heap.size ≤ g) (ty : TypeId) :
    ∃ H, JC (w1.alloc (.cells #[.pointer (some ⟨c, 0, none⟩), .string r.first, v, .int .i64 r.long, .bool r.down] ty)) c w1.heap.size st r H ∧ (∀ k ∈ H, k ∈ F ∨ w.heap.size ≤ k) ∧ Only F w (w1.alloc (.cells #[.pointer (some ⟨c, 0, none⟩), .string r.first, v, .int .i64 r.long, .bool r.down] ty)) := by
  have hs := ho.size
  have hb : Below w1.heap.size w1 (w1.alloc (.cells #[.pointer (some ⟨c, 0, none⟩), .string r.first, v, .int .i64 r.long, .bool r.down] ty)) := (Below.refl _ _).alloc (Nat.le_refl _) _
  refine ⟨F1 ++ (w1.heap.size :: (rowOf v).toList), ⟨F1, w1.heap.size :: (rowOf v).toList, rfl, fun k hk hm => ?_, hR.below hb, v, ?_, hv.kept (fun g hg => hb.block g (hv.lt hg)), fun e => ?_, rfl⟩, fun k hk => ?_, ho.alloc _⟩
  · rcases List.mem_cons.1 hm with rfl | hm
    · have := hR.lt _ hk; omega
    · exact (hd k (by simpa using hm)).1 hk
  · refine ⟨⟨?_, ?_, ?_, ?_, ?_⟩, ?_, ?_, ?_, ?_, ?_⟩ <;> go_simp
  · have := hv.lt e; omega
  · rcases List.mem_append.1 hk with hk | hk
    · exact hF k hk
    · rcases List.mem_cons.1 hk with rfl | hk
      · exact .inr (by omega)
      · exact .inr (hd k (by simpa using hk)).2
def Opens (w : World) (c : Nat) (F : List Nat) (q : Int × St × Jr) (x : Ending) (w' : World) : Prop :=
  (q.1 ≠ 0 ∧ x = .returned (.tuple #[.pointer none, .int .i64 q.1]) ∧ Turns w c F q.2.1 w') ∨
  (q.1 = 0 ∧ ∃ j H, x = .returned (.tuple #[.pointer (some ⟨j, 0, none⟩), .int .i64 0]) ∧ JC w' c j q.2.1 q.2.2 H ∧ (∀ k ∈ H, k ∈ F ∨ w.heap.size ≤ k) ∧ Only F w w')
section
variable {w : World} {c : Nat} {F : List Nat} {st : St}
set_option maxRecDepth 100000 in
set_option maxHeartbeats 4000000 in
theorem begin_p (h : Rep w c F st) (hL : st.l.length ≤ 1000) (hlib : LibAt w) :
    Calls Tryz.prog 48 #[.pointer (some ⟨c, 0, none⟩)] w fun x w' =>
      Opens w c F ((wrS st nLOG (leafS ⟨#[]⟩) true).1, (wrS st nLOG (leafS ⟨#[]⟩) true).2, ⟨⟨#[]⟩, [], (leafS ⟨#[]⟩).size, false⟩) x w' := by
  have L := Lib.hid (jleaf_p ⟨#[]⟩ w hlib)
  have W := Lib.hid (fun w1 (h1 : Rep w1 c F st) => wr_p h1 hL nLOG (leafS ⟨#[]⟩) (by decide) true)
  have HH := Lib.hid h
  generalize hlf : leafS ⟨#[]⟩ = lf at *
  generalize hq : wrS st nLOG lf true = q at *
  obtain ⟨e, st1⟩ := q
  unfold nLOG at W
  simp only at W
  clear h hlib hlf hq
  by_cases he : e = 0
  · subst he
    go_enter Tryz.func48, Tryz.ntmps48
    go_wp2_with fail
    refine L.out.mono ?_
    rintro _ w1 ⟨rfl, hb1⟩
    have HB1 := Lib.hid hb1
    clear hb1
    go_wp2_with fail
    refine (W.out w1 (HH.out.below HB1.out)).mono ?_
    rintro _ w2 ⟨rfl, ht⟩
    have HT := Lib.hid (Turns.below HB1.out ht)
    clear ht
    go_wp2_with fail
    obtain ⟨F1, r1, k1, o1⟩ := HT.out
    obtain ⟨H, h1, h2, h3⟩ := jc_new k1 o1 r1 ⟨⟨#[]⟩, [], lf.size, false⟩ (.nil _) (by intro g hg; cases hg) 98
    go_ret2
    exact .inr ⟨rfl, _, H, rfl, h1, h2, h3⟩
  · have he' : (e != 0) = true := by rw [bne_iff_ne]; exact he
    go_enter Tryz.func48, Tryz.ntmps48
    go_wp2_with fail
    refine L.out.mono ?_
    rintro _ w1 ⟨rfl, hb1⟩
    have HB1 := Lib.hid hb1
    clear hb1
    go_wp2_with fail
    refine (W.out w1 (HH.out.below HB1.out)).mono ?_
    rintro _ w2 ⟨rfl, ht⟩
    have HT := Lib.hid (Turns.below HB1.out ht)
    clear ht
    go_wp2_with fail
    go_ret2
    exact .inl ⟨he, rfl, HT.out⟩
end
end Go.Proofs.YtaacdggjkfmehaaGreatDoor
namespace Go.Proofs.YtaacdggjkfmehaaGreatDoor
open Go.RowKit Go.Maps Go.Proofs.MapD Go.Proofs.Chest
theorem Recs.tail {w : World} {f : ByteArray} {l : List ByteArray} {g o cap : Nat} (h : Recs w (.slice (some ⟨g, o, none⟩) (f :: l).length cap) (f :: l)) : Recs w (.slice (some ⟨g, o + 1, none⟩) l.length (cap - 1)) l ∧ (cap = 1 → Recs w (.slice (some ⟨g, o, none⟩) l.length (cap - 1)) l) := by
  rcases h with ⟨h, _⟩ | ⟨g', o', cap', cur, hv, h1, h2, h3, h4, h5⟩
  · cases h
  · cases hv
    simp only [List.length_cons] at h2
    refine ⟨.inr ⟨g, o + 1, cap - 1, cur, rfl, h1, by omega, by omega, by omega, fun j s hj => ?_⟩, fun h6 => .inr ⟨g, o, cap - 1, cur, rfl, h1, by omega, by omega, by omega, fun j s hj => ?_⟩⟩
    · have := h5 (j + 1) s (by simpa using hj)
      rw [show o + 1 + j = o + (j + 1) by omega]
      exact this
    · have := (List.getElem?_eq_some_iff.1 hj).1
      omega
structure Base (w0 w : World) (F : List Nat) : Prop where
  lib : LibAt w0
  below : Below w0.heap.size w0 w
  foot : ∀ k ∈ F, w0.heap.size ≤ k
theorem Base.at {w0 w : World} {F : List Nat} (h : Base w0 w F) : LibAt w := h.lib.below h.below
theorem Base.next {w0 w w1 : World} {F F1 : List Nat} (h : Base w0 w F) (k1 : ∀ k ∈ F1, k ∈ F ∨ w.heap.size ≤ k) (o1 : Only F w w1) : Base w0 w1 F1 :=
  ⟨h.lib, h.below.trans (o1.below h.below.size h.foot), fun k hk => by
    have := h.below.size
    rcases k1 k hk with h1 | h1
    · exact h.foot k h1
    · omega⟩
section
variable {w0 w : World} {c : Nat} {F : List Nat} {st : St}
theorem Opens.next {w w1 w2 : World} {F F1 : List Nat} {q : Int × St × Jr} {x : Ending} (h1 : ∀ k ∈ F1, k ∈ F ∨ w.heap.size ≤ k) (h2 : Only F w w1) (h3 : Opens w1 c F1 q x w2) : Opens w c F q x w2 := by
  have := h2.size
  rcases h3 with ⟨h4, h5, h6⟩ | ⟨h4, j, H, h5, h6, h7, h8⟩
  · exact .inl ⟨h4, h5, Turns.next h1 h2 h6⟩
  · refine .inr ⟨h4, j, H, h5, h6, fun k hk => ?_, h2.trans h8 h1⟩
    rcases h7 k hk with h | h
    · exact h1 k h
    · exact .inr (by omega)
set_option maxRecDepth 100000 in
set_option maxHeartbeats 8000000 in
theorem open_none_p (h : Rep w c F st) (hL : st.l.length ≤ 900) (hbs : Base w0 w F) (hg : get (asideS st).l nLOG = none) :
    Calls Tryz.prog 23 #[.pointer (some ⟨c, 0, none⟩)] w (Opens w c F ((wrS (asideS st) nLOG (leafS ⟨#[]⟩) true).1, (wrS (asideS st) nLOG (leafS ⟨#[]⟩) true).2, ⟨⟨#[]⟩, [], (leafS ⟨#[]⟩).size, false⟩)) := by
  have A := Lib.hid (aside_p h (by omega))
  have hlen := len_aside st
  have HBS := Lib.hid hbs
  generalize asideS st = st1 at *
  have hread : readS st1 nLOG = (⟨#[]⟩, false) := by unfold readS; rw [hg]
  have RD := Lib.hid (fun w1 F1 (h1 : Rep w1 c F1 st1) => rread_p h1 nLOG (by decide))
  rw [hread] at RD
  unfold nLOG at RD
  clear h hbs hg hread
  go_enter Tryz.func23, Tryz.ntmps23
  go_wp2_with fail
  refine A.out.mono ?_
  rintro _ w1 ⟨rfl, F1, r1, k1, o1⟩
  have HR := Lib.hid (And.intro r1 (And.intro k1 o1))
  clear r1 k1 o1
  go_wp2_with fail
  refine (RD.out w1 F1 HR.out.1).mono ?_
  rintro _ _ ⟨rfl, rfl⟩
  go_wp2_with fail
  refine (begin_p HR.out.1 (by omega) (HBS.out.next HR.out.2.1 HR.out.2.2).at).mono ?_
  intro x w2 hx
  have HX := Opens.next HR.out.2.1 HR.out.2.2 hx
  clear hx
  rcases id HX with ⟨h1, rfl, h2⟩ | ⟨h1, j, H, rfl, h2⟩
  · have HXX := Lib.hid HX
    clear h1 h2 HX
    go_wp2_with fail
    go_ret2
    exact HXX.out
  · have HXX := Lib.hid HX
    clear h1 h2 HX
    go_wp2_with fail
    go_ret2
    exact HXX.out
theorem walk_err : ∀ (f : Nat) (s : ByteArray), (walkS f s).2.2 = 0 ∨ (walkS f s).2.2 = 3
  | 0, _ => .inl rfl
  | f + 1, s => by
    unfold walkS
    split
    · exact .inl rfl
    · split
      · exact walk_err f _
      · split
        · exact .inl rfl
        · exact .inr rfl
theorem walk_len : ∀ (f : Nat) (s : ByteArray), (walkS f s).1.length ≤ s.size ∧ (walkS f s).2.1 ≤ s.size
  | 0, _ => ⟨Nat.zero_le _, Nat.zero_le _⟩
  | f + 1, s => by
    unfold walkS
    split
    · exact ⟨Nat.zero_le _, Nat.zero_le _⟩
    · split
      · rename_i h
        have hb := turn_bd h
        have ih := walk_len f (s.extract (turnS s).2.1 s.size)
        rw [ByteArray.size_extract] at ih
        simp only [List.length_cons]
        omega
      · split <;> exact ⟨Nat.zero_le _, Nat.zero_le _⟩
set_option maxRecDepth 100000 in
set_option maxHeartbeats 8000000 in
theorem open_bad_p (h : Rep w c F st) (hL : st.l.length ≤ 900) (hbs : Base w0 w F) {r : Rl} (hg : get (asideS st).l nLOG = some r) (e : Int) (he : (e = 3 ∧ (walkS r.t.size r.t).2.2 = 0 ∧ (walkS r.t.size r.t).1 = []) ∨ (e = (walkS r.t.size r.t).2.2 ∧ e ≠ 0)) (jr : Jr) :
    Calls Tryz.prog 23 #[.pointer (some ⟨c, 0, none⟩)] w (Opens w c F (e, asideS st, jr)) := by
  have A := Lib.hid (aside_p h (by omega))
  have hlen := len_aside st
  have HBS := Lib.hid hbs
  generalize asideS st = st1 at *
  have hread : readS st1 nLOG = (r.t, true) := by unfold readS; rw [hg]
  have RD := Lib.hid (fun w1 F1 (h1 : Rep w1 c F1 st1) => rread_p h1 nLOG (by decide))
  have HZ : Hid (Wf st1 → r.t.size ≤ 1048576) := Lib.hid (fun hw => by
    have h1 := hw.room
    have h2 := total_le (get_mem hg)
    simp only at h2
    omega)
  rw [hread] at RD
  unfold nLOG at RD
  generalize r.t = t at *
  have HE := Lib.hid he
  clear h hbs hg hread he
  go_enter Tryz.func23, Tryz.ntmps23
  go_wp2_with fail
  refine A.out.mono ?_
  rintro _ w1 ⟨rfl, F1, r1, k1, o1⟩
  have HR := Lib.hid (And.intro r1 (And.intro k1 o1))
  clear r1 k1 o1
  go_wp2_with fail
  refine (RD.out w1 F1 HR.out.1).mono ?_
  rintro _ _ ⟨rfl, rfl⟩
  go_wp2_with fail
  refine (turnAll_p t (by have := HZ.out HR.out.1.wf; omega) w1 (HBS.out.next HR.out.2.1 HR.out.2.2).at).mono ?_
  rintro x w2 ⟨hb2, ⟨h1, rfl⟩ | ⟨h1, v, rfl, h2, _⟩⟩
  · have h3 : e = (walkS t.size t).2.2 := by
      rcases HE.out with ⟨_, h4, _⟩ | ⟨h4, _⟩
      · exact absurd h4 h1
      · exact h4
    rw [← h3] at h1 ⊢
    have h4 : (e != 0) = true := by rw [bne_iff_ne]; exact h1
    have HX : Hid (Opens w c F (e, st1, jr) (.returned (.tuple #[.pointer none, .int .i64 e])) w2) := Lib.hid (.inl ⟨h1, rfl, Turns.more ⟨F1, HR.out.1, HR.out.2.1, HR.out.2.2⟩ hb2⟩)
    clear h1 h3 hb2 HE
    go_wp2_with fail
    go_ret2
    exact HX.out
  · obtain ⟨rfl, h5⟩ : e = 3 ∧ (walkS t.size t).1 = [] := by
      rcases HE.out with ⟨h4, _, h5⟩ | ⟨h4, h5⟩
      · exact ⟨h4, h5⟩
      · exact absurd (h4.trans h1) h5
    rw [h5] at h2
    obtain ⟨ad, cap, rfl⟩ := h2.shape
    have HX : Hid (Opens w c F (3, st1, jr) (.returned (.tuple #[.pointer none, .int .i64 3])) w2) := Lib.hid (.inl ⟨(by decide : (3 : Int) ≠ 0), rfl, Turns.more ⟨F1, HR.out.1, HR.out.2.1, HR.out.2.2⟩ hb2⟩)
    clear h1 h5 hb2 HE h2
    go_wp2_with fail
    go_ret2
    exact HX.out
set_option maxRecDepth 100000 in
set_option maxHeartbeats 8000000 in
theorem open_cut_p (h : Rep w c F st) (hL : st.l.length ≤ 900) (hbs : Base w0 w F) {r : Rl} (hg : get (asideS st).l nLOG = some r) {f : ByteArray} {l : List ByteArray} {n : Nat} (hw : walkS r.t.size r.t = (f :: l, n, 0)) (hn : n < r.t.size) :
    Calls Tryz.prog 23 #[.pointer (some ⟨c, 0, none⟩)] w (Opens w c F (0, (cut (asideS st) nLOG (n : Int)).2, ⟨f, l, n, false⟩)) := by
  have A := Lib.hid (aside_p h (by omega))
  have hlen := len_aside st
  have HBS := Lib.hid hbs
  generalize asideS st = st1 at *
  have hread : readS st1 nLOG = (r.t, true) := by unfold readS; rw [hg]
  have RD := Lib.hid (fun w1 F1 (h1 : Rep w1 c F1 st1) => rread_p h1 nLOG (by decide))
  have HZ : Hid (Wf st1 → r.t.size ≤ 1048576) := Lib.hid (fun hw => by
    have h1 := hw.room
    have h2 := total_le (get_mem hg)
    simp only at h2
    omega)
  have hwl := walk_len r.t.size r.t
  rw [hw] at hwl
  simp only [List.length_cons] at hwl
  have hc0 : (cut st1 nLOG (n : Int)).1 = 0 := by
    unfold cut
    rw [hg]
    simp only
    rw [if_neg (by omega)]
  have CT := fun w2 F1 (h1 : Rep w2 c F1 st1) => rcut_p h1 nLOG (by decide) (n : Int)
  rw [hread] at RD
  unfold nLOG at RD
  generalize cut st1 nLOG (n : Int) = q at *
  obtain ⟨e, st2⟩ := q
  simp only at hc0 CT ⊢
  subst hc0
  unfold nLOG at CT
  have HCT := Lib.hid CT
  clear CT
  generalize r.t = t at *
  have HW := Lib.hid hw
  clear h hbs hg hread hw
  obtain ⟨hl1, hn1⟩ := hwl
  have hn' : (n : Int) < (t.size : Int) := by omega
  go_enter Tryz.func23, Tryz.ntmps23
  go_wp2_with fail
  refine A.out.mono ?_
  rintro _ w1 ⟨rfl, F1, r1, k1, o1⟩
  have HR := Lib.hid (And.intro r1 (And.intro k1 o1))
  clear r1 k1 o1
  go_wp2_with fail
  refine (RD.out w1 F1 HR.out.1).mono ?_
  rintro _ _ ⟨rfl, rfl⟩
  go_wp2_with fail
  have htz := HZ.out HR.out.1.wf
  refine (turnAll_p t (by omega) w1 (HBS.out.next HR.out.2.1 HR.out.2.2).at).mono ?_
  rw [HW.out]
  rintro x w2 ⟨hb2, ⟨h1, _⟩ | ⟨_, v, rfl, h2, g, hg, hgw⟩⟩
  · exact absurd rfl h1
  have h20 := h2
  rcases h2 with ⟨rfl, _⟩ | ⟨g', o, cap, cur, rfl, hgc, hlc, hcm, hoc, hcc⟩
  · cases hg
  obtain rfl : g' = g := Option.some.inj hg
  have hlt := h20.lt rfl
  have hcell : w2.cell? ⟨g', o, none⟩ = some (.string f) := by
    rw [cell_of_row w2 g' o cur _ (0, 0) hgc]
    exact hcc 0 f rfl
  have hg1 : g' ∉ F1 := fun hm => by
    have := HR.out.1.lt _ hm
    omega
  have HS : Hid (Only F w w2 ∧ Rep w2 c F1 st1) := Lib.hid ⟨HR.out.2.2.trans (Only.of_below hb2 []) (by simp), HR.out.1.below hb2⟩
  have hgF : Hid (w.heap.size ≤ g' ∧ g' ∉ F1 ∧ g' < w2.heap.size) := Lib.hid ⟨by have := HR.out.2.2.size; omega, hg1, hlt⟩
  obtain ⟨ad, had⟩ : ∃ ad : Option Addr, (if cap = 1 then some ⟨g', o, none⟩ else some ⟨g', o + 1, none⟩) = ad := ⟨_, rfl⟩
  have HT : Hid (Recs w2 (Value.slice ad l.length (cap - 1)) l ∧ rowOf (Value.slice ad l.length (cap - 1)) = some g') := Lib.hid (by
    rw [← had]
    by_cases h1 : cap = 1
    · rw [if_pos h1]
      exact ⟨h20.tail.2 h1, rfl⟩
    · rw [if_neg h1]
      exact ⟨h20.tail.1, rfl⟩)
  simp only [List.length_cons] at hlc
  have hcap : 1 ≤ cap := by omega
  clear h20 hgc hcc hb2 hg hg1 HBS HW hlt
  go_wp2_with fail
  refine (HCT.out w2 F1 HS.out.2).mono ?_
  rintro _ w3 ⟨rfl, F2, r2, k2, o2⟩
  have hcell3 : w3.cell? ⟨g', o, none⟩ = some (.string f) := by
    rw [cell_of_block (o2.block g' hgF.out.2.2 hgF.out.2.1)]
    exact hcell
  have HF : Hid (∀ ty, ∃ H, JC (w3.alloc (.cells #[.pointer (some ⟨c, 0, none⟩), .string f, (Value.slice ad l.length (cap - 1)), .int .i64 n, .bool false] ty)) c w3.heap.size st2 ⟨f, l, n, false⟩ H ∧ (∀ k ∈ H, k ∈ F ∨ w.heap.size ≤ k) ∧ Only F w (w3.alloc (.cells #[.pointer (some ⟨c, 0, none⟩), .string f, (Value.slice ad l.length (cap - 1)), .int .i64 n, .bool false] ty))) := Lib.hid (fun ty => by
    have ho : Only F w w3 := HS.out.1.trans o2 HR.out.2.1
    have hs2 := HS.out.1.size
    obtain ⟨hv', hr'⟩ := HT.out
    refine jc_new (fun k hk => ?_) ho r2 ⟨f, l, n, false⟩ (hv'.kept (fun g1 h1 => ?_)) (fun g1 h1 => ?_) ty
    · rcases k2 k hk with h | h
      · exact HR.out.2.1 k h
      · exact .inr (by omega)
    · rw [hr'] at h1
      obtain rfl := Option.some.inj h1
      exact o2.block g' hgF.out.2.2 hgF.out.2.1
    · rw [hr'] at h1
      obtain rfl := Option.some.inj h1
      refine ⟨fun hm => ?_, hgF.out.1⟩
      rcases k2 _ hm with h | h
      · exact hgF.out.2.1 h
      · have := hgF.out.2.2; omega)
  clear o2 k2 r2 hcell
  go_wp2_with fail
  go_region
  go_wp2_with fail
  obtain ⟨H, h1, h2, h3⟩ := HF.out 98
  go_ret2
  exact .inr ⟨rfl, _, H, rfl, h1.kept (fun _ _ => rfl), h2, h3.drew⟩
set_option maxRecDepth 100000 in
set_option maxHeartbeats 8000000 in
theorem open_whole_p (h : Rep w c F st) (hL : st.l.length ≤ 900) (hbs : Base w0 w F) {r : Rl} (hg : get (asideS st).l nLOG = some r) {f : ByteArray} {l : List ByteArray} {n : Nat} (hw : walkS r.t.size r.t = (f :: l, n, 0)) (hn : ¬ n < r.t.size) :
    Calls Tryz.prog 23 #[.pointer (some ⟨c, 0, none⟩)] w (Opens w c F (0, asideS st, ⟨f, l, n, false⟩)) := by
  have A := Lib.hid (aside_p h (by omega))
  have hlen := len_aside st
  have HBS := Lib.hid hbs
  generalize asideS st = st1 at *
  have hread : readS st1 nLOG = (r.t, true) := by unfold readS; rw [hg]
  have RD := Lib.hid (fun w1 F1 (h1 : Rep w1 c F1 st1) => rread_p h1 nLOG (by decide))
  have HZ : Hid (Wf st1 → r.t.size ≤ 1048576) := Lib.hid (fun hw => by
    have h1 := hw.room
    have h2 := total_le (get_mem hg)
    simp only at h2
    omega)
  have hwl := walk_len r.t.size r.t
  rw [hw] at hwl
  simp only [List.length_cons] at hwl
  rw [hread] at RD
  unfold nLOG at RD
  generalize r.t = t at *
  have HW := Lib.hid hw
  clear h hbs hg hread hw
  obtain ⟨hl1, hn1⟩ := hwl
  have hn' : ¬ (n : Int) < (t.size : Int) := by omega
  go_enter Tryz.func23, Tryz.ntmps23
  go_wp2_with fail
  refine A.out.mono ?_
  rintro _ w1 ⟨rfl, F1, r1, k1, o1⟩
  have HR := Lib.hid (And.intro r1 (And.intro k1 o1))
  clear r1 k1 o1
  go_wp2_with fail
  refine (RD.out w1 F1 HR.out.1).mono ?_
  rintro _ _ ⟨rfl, rfl⟩
  go_wp2_with fail
  have htz := HZ.out HR.out.1.wf
  refine (turnAll_p t (by omega) w1 (HBS.out.next HR.out.2.1 HR.out.2.2).at).mono ?_
  rw [HW.out]
  rintro x w2 ⟨hb2, ⟨h1, _⟩ | ⟨_, v, rfl, h2, g, hg, hgw⟩⟩
  · exact absurd rfl h1
  have h20 := h2
  rcases h2 with ⟨rfl, _⟩ | ⟨g', o, cap, cur, rfl, hgc, hlc, hcm, hoc, hcc⟩
  · cases hg
  obtain rfl : g' = g := Option.some.inj hg
  have hlt := h20.lt rfl
  have hcell : w2.cell? ⟨g', o, none⟩ = some (.string f) := by
    rw [cell_of_row w2 g' o cur _ (0, 0) hgc]
    exact hcc 0 f rfl
  have hg1 : g' ∉ F1 := fun hm => by
    have := HR.out.1.lt _ hm
    omega
  have HS : Hid (Only F w w2 ∧ Rep w2 c F1 st1) := Lib.hid ⟨HR.out.2.2.trans (Only.of_below hb2 []) (by simp), HR.out.1.below hb2⟩
  have hgF : Hid (w.heap.size ≤ g' ∧ g' ∉ F1 ∧ g' < w2.heap.size) := Lib.hid ⟨by have := HR.out.2.2.size; omega, hg1, hlt⟩
  obtain ⟨ad, had⟩ : ∃ ad : Option Addr, (if cap = 1 then some ⟨g', o, none⟩ else some ⟨g', o + 1, none⟩) = ad := ⟨_, rfl⟩
  have HT : Hid (Recs w2 (Value.slice ad l.length (cap - 1)) l ∧ rowOf (Value.slice ad l.length (cap - 1)) = some g') := Lib.hid (by
    rw [← had]
    by_cases h1 : cap = 1
    · rw [if_pos h1]
      exact ⟨h20.tail.2 h1, rfl⟩
    · rw [if_neg h1]
      exact ⟨h20.tail.1, rfl⟩)
  simp only [List.length_cons] at hlc
  have hcap : 1 ≤ cap := by omega
  clear h20 hgc hcc hb2 hg hg1 HBS HW hlt
  obtain ⟨w3, F2, rfl, rfl⟩ : ∃ w3 F2, w3 = w2 ∧ F2 = F1 := ⟨_, _, rfl, rfl⟩
  have r2 := HS.out.2
  have k2 : ∀ k ∈ F2, k ∈ F2 ∨ w3.heap.size ≤ k := fun k hk => .inl hk
  have o2 := Only.refl F2 w3
  have HF : Hid (∀ ty, ∃ H, JC (w3.alloc (.cells #[.pointer (some ⟨c, 0, none⟩), .string f, (Value.slice ad l.length (cap - 1)), .int .i64 n, .bool false] ty)) c w3.heap.size st1 ⟨f, l, n, false⟩ H ∧ (∀ k ∈ H, k ∈ F ∨ w.heap.size ≤ k) ∧ Only F w (w3.alloc (.cells #[.pointer (some ⟨c, 0, none⟩), .string f, (Value.slice ad l.length (cap - 1)), .int .i64 n, .bool false] ty))) := Lib.hid (fun ty => by
    have ho : Only F w w3 := HS.out.1.trans o2 HR.out.2.1
    have hs2 := HS.out.1.size
    obtain ⟨hv', hr'⟩ := HT.out
    refine jc_new (fun k hk => ?_) ho r2 ⟨f, l, n, false⟩ (hv'.kept (fun g1 h1 => ?_)) (fun g1 h1 => ?_) ty
    · rcases k2 k hk with h | h
      · exact HR.out.2.1 k h
      · exact .inr (by omega)
    · rfl
    · rw [hr'] at h1
      obtain rfl := Option.some.inj h1
      refine ⟨fun hm => ?_, hgF.out.1⟩
      rcases k2 _ hm with h | h
      · exact hgF.out.2.1 h
      · have := hgF.out.2.2; omega)
  clear o2 k2 r2
  go_wp2_with fail
  go_region
  go_wp2_with fail
  obtain ⟨H, h1, h2, h3⟩ := HF.out 98
  go_ret2
  exact .inr ⟨rfl, _, H, rfl, h1.kept (fun _ _ => rfl), h2, h3.drew⟩
theorem open_p (h : Rep w c F st) (hL : st.l.length ≤ 900) (hbs : Base w0 w F) :
    Calls Tryz.prog 23 #[.pointer (some ⟨c, 0, none⟩)] w (Opens w c F (openS st)) := by
  unfold openS
  cases hg : get (asideS st).l nLOG with
  | none => exact open_none_p h hL hbs hg
  | some r =>
    simp only
    by_cases he : (walkS r.t.size r.t).2.2 = 0
    · rw [if_neg (by rw [he]; decide)]
      cases hl : (walkS r.t.size r.t).1 with
      | nil => exact open_bad_p h hL hbs hg 3 (.inl ⟨rfl, he, hl⟩) _
      | cons f l =>
        have hw : walkS r.t.size r.t = (f :: l, (walkS r.t.size r.t).2.1, 0) := by
          rw [← hl, ← he]
        simp only
        by_cases hn : (walkS r.t.size r.t).2.1 < r.t.size
        · rw [if_pos hn]
          exact open_cut_p h hL hbs hg hw hn
        · rw [if_neg hn]
          exact open_whole_p h hL hbs hg hw hn
    · rw [if_pos he]
      exact open_bad_p h hL hbs hg _ (.inr ⟨rfl, he⟩) _
end
end Go.Proofs.YtaacdggjkfmehaaGreatDoor
