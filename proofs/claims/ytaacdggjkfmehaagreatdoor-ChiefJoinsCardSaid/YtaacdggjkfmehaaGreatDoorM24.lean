/-
  Contracts of the program, and what they rest on.
-/
import Derived.Test.YtaacdggjkfmehaaGreatDoorM23
import Derived.Test.YtaacdggjkfmehaaGreatDoorM19
namespace Go.Proofs.YtaacdggjkfmehaaGreatDoor
open Go.RowKit Go.Proofs.Flo Go.Proofs.Cpl
set_option maxRecDepth 100000 in
set_option maxHeartbeats 4000000 in
theorem jmark_p (s : ByteArray) (hs : s.size ≤ 10000000) (w : World) (h : LibAt w) :
    Calls Tryz.prog 95 #[.string s] w fun e w' => e = .returned (.string (markS s)) ∧ Below w.heap.size w w' := by
  have v1 := conv_str s
  have M := Lib.hid (fun b n cap hn => mark_str s b n cap _ rfl hn (by unfold maxLen; omega))
  have hok : Ok (gon (0, 1) s.data.toList) := ok_gon ok_i _
  have HT := Lib.hid h.1
  unfold markS
  generalize gon (0, 1) s.data.toList = G at *
  clear h
  go_enter Tryz.func95, Tryz.ntmps95
  go_wp2_with fail
  refine (M.out w.heap.size _ _ rfl _ (bytesAt_str _ _ _)).mono ?_
  rintro _ w' ⟨rfl, rfl⟩
  have hb1 := Lib.bytesWorld_below w 5 s
  generalize Lib.bytesWorld w 5 s = w1 at *
  go_wp2_with fail
  refine (gtext G hok w1 (HT.out.below hb1)).mono ?_
  rintro _ w2 ⟨rfl, hb2⟩
  go_wp2_with fail
  go_ret
  exact ⟨rfl, hb1.trans (hb2.mono hb1.size)⟩
theorem put_str (s : ByteArray) : putS 2 0 s .nil = frameS s ⟨#[44]⟩ := by
  have : vmay 2 0 s .nil = true := rfl
  unfold putS
  rw [this]
  rfl
set_option maxRecDepth 100000 in
set_option maxHeartbeats 4000000 in
theorem jleaf_p (s : ByteArray) (w : World) (h : LibAt w) :
    Calls Tryz.prog 69 #[.string s] w fun e w' => e = .returned (.string (leafS s)) ∧ Below w.heap.size w w' := by
  have HL := Lib.hid h
  unfold leafS
  by_cases hs : 400000 < s.size
  · rw [if_pos hs]
    have hs' : (400000 : Int) < (s.size : Int) := by omega
    clear h
    go_enter Tryz.func69, Tryz.ntmps69
    go_wp2_with fail
    go_ret
    exact ⟨rfl, Below.refl _ _⟩
  · rw [if_neg hs]
    have hs' : ¬ (400000 : Int) < (s.size : Int) := by omega
    have hj : ¬ 9223372036854775807 < (markS s).size + (frameS s ⟨#[44]⟩).size := by
      have h1 := markS_size s
      have h2 := frameS_size s ⟨#[44]⟩
      have h3 : (⟨#[44]⟩ : ByteArray).size = 1 := rfl
      omega
    have M := Lib.hid (jmark_p s (by omega) w h)
    have P := Lib.hid (fun w1 (hp : PowAt w1) => Put_p 2 0 s .nil none 0 w1 hp (by omega) (by trivial) (.inl rfl))
    clear h
    go_enter Tryz.func69, Tryz.ntmps69
    go_wp2_with fail
    refine M.out.mono ?_
    rintro _ w1 ⟨rfl, hb1⟩
    go_wp2_with fail
    refine (P.out w1 (HL.out.below hb1).2.2.2).mono ?_
    rintro _ w2 ⟨rfl, hb2⟩
    rw [put_str]
    go_wp2_with fail
    go_ret
    exact ⟨rfl, hb1.trans (hb2.mono hb1.size)⟩
set_option maxRecDepth 100000 in
set_option maxHeartbeats 4000000 in
theorem jmarked_p (s : ByteArray) (w : World) (h : LibAt w) :
    Calls Tryz.prog 93 #[.string s] w fun e w' => e = .returned (.bool (markedB (padS s))) ∧ Below w.heap.size w w' := by
  have hR : Calls Tryz.prog 105 #[.string (padS s)] w fun e w' => ∃ x y, e = .returned (.tuple #[.complex .f64 x y, .bool (markedB (padS s))]) ∧ Below w.heap.size w w' := by
    cases hm : markedB (padS s) with
    | true =>
      obtain ⟨p, hp⟩ := marked_of (padS_size s) hm
      exact (gread_yes _ p hp w h.1 h.2.1).mono fun e w' ⟨h1, h2⟩ => ⟨_, _, h1, h2⟩
    | false =>
      exact (gread_no _ (marked_no hm) w h.1 h.2.1).mono fun e w' ⟨h1, h2⟩ => ⟨_, _, h1, h2⟩
  obtain ⟨R, hRR⟩ : ∃ R, markedB (padS s) = R := ⟨_, rfl⟩
  rw [hRR] at hR ⊢
  clear hRR h
  have hp : padS s = s.extract 0 (min s.size 8) ++ noughts8.extract (min s.size 8) 8 := rfl
  rw [hp] at hR
  clear hp
  unfold noughts8 at hR
  have hb0 : (0 : Int) ≤ min (s.size : Int) (8 : Int) := by omega
  have hb1 : min (s.size : Int) (8 : Int) ≤ (s.size : Int) := by omega
  have hm : (min (s.size : Int) (8 : Int)).toNat = min s.size 8 := by omega
  have hz : (s.extract 0 (min s.size 8)).size = min s.size 8 := by rw [ByteArray.size_extract]; omega
  have hb2 : min (s.size : Int) (8 : Int) ≤ 8 := by omega
  have hm2 : ((min s.size 8 : Nat) : Int) ≤ 8 := by omega
  have HR := Lib.hid hR
  clear hR
  go_enter Tryz.func93, Tryz.ntmps93
  go_wp2_with fail
  refine HR.out.mono ?_
  rintro _ w1 ⟨x, y, rfl, hb⟩
  go_wp2_with fail
  go_ret
  exact ⟨rfl, hb⟩
end Go.Proofs.YtaacdggjkfmehaaGreatDoor
namespace Go.Proofs.YtaacdggjkfmehaaGreatDoor
open Go.RowKit Go.Proofs.Flo Go.Proofs.Cpl
theorem get_text {t : ByteArray} {x : G} (h : getR t = .ok x) (hk : x.k = 2) : x.s = (cutP t).1 ∧ (cutP t).2.2 = 0 := by
  unfold getR at h
  rw [getP] at h
  split at h
  · rename_i h0
    refine ⟨?_, h0⟩
    rw [if_neg (by decide)] at h
    simp only at h
    split at h
    · split at h
      · cases h
        simp at hk
      · cases h
    · split at h
      · cases h
        rfl
      · split at h
        · split at h
          · cases h
            simp at hk
          · cases h
        · cases h
  · cases h
set_option maxRecDepth 100000 in
set_option maxHeartbeats 4000000 in
theorem jturn_p (s : ByteArray) (hs : s.size ≤ 9000000) (w : World) (h : LibAt w) :
    Calls Tryz.prog 68 #[.string s] w fun e w' => e = .returned (.tuple #[.string (turnS s).1, .int .i64 ((turnS s).2.1 : Nat), .int .i64 (turnS s).2.2]) ∧ Below w.heap.size w w' := by
  have HL := Lib.hid h
  have M := Lib.hid (jmarked_p s w h)
  cases hm : markedB (padS s) with
  | false =>
    have e1 : turnS s = (⟨#[]⟩, 0, 3) := by unfold turnS; rw [hm, if_pos rfl]
    rw [e1]
    rw [hm] at M
    clear h hm e1
    go_enter Tryz.func68, Tryz.ntmps68
    go_wp2_with fail
    refine M.out.mono ?_
    rintro _ w1 ⟨rfl, hb1⟩
    go_wp2_with fail
    exact bodyPost_ret (v := .tuple #[.string _, .int .i64 _, .int .i64 _]) (by first | (simp [results, Tryz.results68, go_sem]; done) | (simp [results, Tryz.results68, go_sem]; exact ⟨rfl, rfl, rfl⟩)) rfl ⟨rfl, hb1⟩
  | true =>
    rw [hm] at M
    by_cases h8 : s.size < 8
    · have e1 : turnS s = (⟨#[]⟩, 0, 2) := by unfold turnS; rw [hm, if_neg (by decide), if_pos h8]
      have h8' : (s.size : Int) < 8 := by omega
      rw [e1]
      clear h hm e1
      go_enter Tryz.func68, Tryz.ntmps68
      go_wp2_with fail
      refine M.out.mono ?_
      rintro _ w1 ⟨rfl, hb1⟩
      go_wp2_with fail
      exact bodyPost_ret (v := .tuple #[.string _, .int .i64 _, .int .i64 _]) (by first | (simp [results, Tryz.results68, go_sem]; done) | (simp [results, Tryz.results68, go_sem]; exact ⟨rfl, rfl, rfl⟩)) rfl ⟨rfl, hb1⟩
    · have h8' : ¬ (s.size : Int) < 8 := by omega
      have h8'' : (8 : Int) ≤ (s.size : Int) := by omega
      have G0 := fun w1 (h1 : LibAt w1) => Get_p (s.extract 8 s.size) w1 (by rw [ByteArray.size_extract]; omega) h1
      unfold GetV at G0
      cases hg : getR (s.extract 8 s.size) with
      | error e =>
        rw [hg] at G0
        simp only at G0
        have he := getP_err 6 _ _ e hg
        have HG := Lib.hid G0
        have e1 : turnS s = (⟨#[]⟩, 0, if e = 2 then 2 else 3) := by unfold turnS; rw [hm, if_neg (by decide), if_neg h8, hg]
        rw [e1]
        clear h hm e1 G0 hg h8
        rcases he with rfl | rfl
        all_goals
          go_enter Tryz.func68, Tryz.ntmps68
          go_wp2_with fail
          refine M.out.mono ?_
          rintro _ w1 ⟨rfl, hb1⟩
          have HB1 := Lib.hid (show Below w.heap.size w w1.drew from hb1.drew)
          clear hb1
          go_wp2_with fail
          go_region
          go_wp2_with fail
          refine (HG.out w1.drew (HL.out.below HB1.out)).mono ?_
          rintro _ w2 ⟨hb2, rfl⟩
          have HB2 := Lib.hid (HB1.out.trans (hb2.mono HB1.out.size))
          clear hb2
          go_wp2_with fail
          exact bodyPost_ret (v := .tuple #[.string _, .int .i64 _, .int .i64 _]) (by first | (simp [results, Tryz.results68, go_sem]; done) | (simp [results, Tryz.results68, go_sem]; exact ⟨rfl, rfl, rfl⟩)) rfl ⟨rfl, HB2.out.alloc HB2.out.size _⟩
      | ok x =>
        rw [hg] at G0
        simp only at G0
        have HG := Lib.hid G0
        by_cases hk : x.k = 2
        · obtain ⟨t1, t2⟩ := get_text hg hk
          have t3 := (cutP_bd _ t2).2.2.1
          rw [← t1] at t3
          have J := Lib.hid (fun w1 (h1 : LibAt w1) => jmark_p x.s (by omega) w1 h1)
          by_cases hms : markS x.s = s.extract 0 8
          · have e1 : turnS s = (x.s, 8 + x.b, 0) := by unfold turnS; rw [hm, if_neg (by decide), if_neg h8, hg]; simp only; rw [if_pos ⟨hk, hms⟩]
            have hbb : x.b ≤ 9000000 := by
              have h1 := getP_bd 6 _ 6000 x hg (by decide)
              have h2 := cutP_bd _ h1.2.2
              rw [← h1.2.1, ByteArray.size_extract] at h2
              omega
            rw [e1]
            obtain ⟨k, n, xs, l, b, c⟩ := x
            simp only at hk hms HG J hbb
            subst hk
            have hwr : Hid (((min 8 s.size : Nat) : Int) + (b : Int) = ((8 + b : Nat) : Int)) := Lib.hid (by omega)
            clear h hm e1 G0 hg h8 t1 t2 t3
            rw [hms] at J
            clear hms
            go_enter Tryz.func68, Tryz.ntmps68
            go_wp2_with fail
            refine M.out.mono ?_
            rintro _ w1 ⟨rfl, hb1⟩
            have HB1 := Lib.hid (show Below w.heap.size w w1.drew from hb1.drew)
            clear hb1
            go_wp2_with fail
            go_region
            go_wp2_with fail
            refine (HG.out w1.drew (HL.out.below HB1.out)).mono ?_
            rintro _ w2 ⟨hb2, ad, cap, rfl, hr⟩
            have HB2 := Lib.hid (HB1.out.trans (hb2.mono HB1.out.size))
            clear hb2 hr
            go_wp2_with fail
            refine (J.out _ (HL.out.below (HB2.out.alloc HB2.out.size _))).mono ?_
            rintro _ w3 ⟨rfl, hb3⟩
            have HB3 := Lib.hid ((HB2.out.alloc HB2.out.size _).trans (hb3.mono (HB2.out.alloc HB2.out.size _).size))
            have y2 : w3.cell? ⟨w2.heap.size, 2, none⟩ = some (.string xs) := by rw [hb3.cell (by simp)]; go_simp
            clear hb3
            go_wp2_with fail
            refine bodyPost_ret (v := .tuple #[.string xs, .int .i64 (((min 8 s.size : Nat) : Int) + (b : Int)), .int .i64 0]) (by simp [results, Tryz.results68, go_sem]) rfl ⟨by rw [hwr.out], HB3.out⟩
          · have e1 : turnS s = (⟨#[]⟩, 0, 3) := by unfold turnS; rw [hm, if_neg (by decide), if_neg h8, hg]; simp only; rw [if_neg (fun h9 => hms h9.2)]
            have hne := not_toList hms
            rw [e1]
            obtain ⟨k, n, xs, l, b, c⟩ := x
            simp only at hk hms HG J hne
            subst hk
            clear h hm e1 G0 hg h8 t1 t2 t3 hms
            go_enter Tryz.func68, Tryz.ntmps68
            go_wp2_with fail
            refine M.out.mono ?_
            rintro _ w1 ⟨rfl, hb1⟩
            have HB1 := Lib.hid (show Below w.heap.size w w1.drew from hb1.drew)
            clear hb1
            go_wp2_with fail
            go_region
            go_wp2_with fail
            refine (HG.out w1.drew (HL.out.below HB1.out)).mono ?_
            rintro _ w2 ⟨hb2, ad, cap, rfl, hr⟩
            have HB2 := Lib.hid (HB1.out.trans (hb2.mono HB1.out.size))
            clear hb2 hr
            go_wp2_with fail
            refine (J.out _ (HL.out.below (HB2.out.alloc HB2.out.size _))).mono ?_
            rintro _ w3 ⟨rfl, hb3⟩
            have HB3 := Lib.hid ((HB2.out.alloc HB2.out.size _).trans (hb3.mono (HB2.out.alloc HB2.out.size _).size))
            have y2 : w3.cell? ⟨w2.heap.size, 2, none⟩ = some (.string xs) := by rw [hb3.cell (by simp)]; go_simp
            clear hb3
            go_wp2_with fail
            exact bodyPost_ret (v := .tuple #[.string _, .int .i64 _, .int .i64 _]) (by first | (simp [results, Tryz.results68, go_sem]; done) | (simp [results, Tryz.results68, go_sem]; exact ⟨rfl, rfl, rfl⟩)) rfl ⟨rfl, HB3.out⟩
        · have e1 : turnS s = (⟨#[]⟩, 0, 3) := by unfold turnS; rw [hm, if_neg (by decide), if_neg h8, hg]; simp only; rw [if_neg (fun h9 => hk h9.1)]
          have hne : (x.k != 2) = true := by rw [bne_iff_ne]; exact hk
          rw [e1]
          obtain ⟨k, n, xs, l, b, c⟩ := x
          simp only at hk HG hne
          clear h hm e1 G0 hg h8
          go_enter Tryz.func68, Tryz.ntmps68
          go_wp2_with fail
          refine M.out.mono ?_
          rintro _ w1 ⟨rfl, hb1⟩
          have HB1 := Lib.hid (show Below w.heap.size w w1.drew from hb1.drew)
          clear hb1
          go_wp2_with fail
          go_region
          go_wp2_with fail
          refine (HG.out w1.drew (HL.out.below HB1.out)).mono ?_
          rintro _ w2 ⟨hb2, ad, cap, rfl, hr⟩
          have HB2 := Lib.hid (HB1.out.trans (hb2.mono HB1.out.size))
          clear hb2 hr
          go_wp2_with fail
          exact bodyPost_ret (v := .tuple #[.string _, .int .i64 _, .int .i64 _]) (by first | (simp [results, Tryz.results68, go_sem]; done) | (simp [results, Tryz.results68, go_sem]; exact ⟨rfl, rfl, rfl⟩)) rfl ⟨rfl, HB2.out.alloc HB2.out.size _⟩
end Go.Proofs.YtaacdggjkfmehaaGreatDoor
namespace Go.Proofs.YtaacdggjkfmehaaGreatDoor
open Go.RowKit Go.Proofs.Flo Go.Proofs.Cpl
def TaRel (w : World) (t : ByteArray) (R : List ByteArray × Nat × Int) (lv nv : Value) (wr : World) : Prop :=
  ∃ (v : Value) (n f : Nat) (acc : List ByteArray), v = lv ∧ nv = .int .i64 n ∧ n ≤ t.size ∧ t.size - n ≤ f ∧ Recs wr lv acc ∧ (∃ g, rowOf lv = some g ∧ w.heap.size ≤ g) ∧ acc.length ≤ n ∧
    Hid (R = (acc ++ (walkS f (t.extract n t.size)).1, n + (walkS f (t.extract n t.size)).2.1, (walkS f (t.extract n t.size)).2.2)) ∧ Below w.heap.size w wr
def TaPost (w : World) (R : List ByteArray × Nat × Int) (x : Ending) (w' : World) : Prop :=
  Below w.heap.size w w' ∧ ((R.2.2 ≠ 0 ∧ x = .returned (.tuple #[.slice none 0 0, .int .i64 0, .int .i64 R.2.2])) ∨
    (R.2.2 = 0 ∧ ∃ v, x = .returned (.tuple #[v, .int .i64 (R.2.1 : Nat), .int .i64 0]) ∧ Recs w' v R.1 ∧ ∃ g, rowOf v = some g ∧ w.heap.size ≤ g))
set_option maxRecDepth 100000 in
set_option maxHeartbeats 8000000 in
theorem turnAll_p (t : ByteArray) (hs : t.size ≤ 2000000) (w : World) (h : LibAt w) :
    Calls Tryz.prog 49 #[.string t] w (TaPost w (walkS t.size t)) := by
  obtain ⟨R, hR⟩ : ∃ R, walkS t.size t = R := ⟨_, rfl⟩
  have hR0 : R = ([] ++ (walkS t.size (t.extract 0 t.size)).1, 0 + (walkS t.size (t.extract 0 t.size)).2.1, (walkS t.size (t.extract 0 t.size)).2.2) := by
    rw [extract_all, hR]
    simp
  rw [hR]
  have HR := Lib.hid hR0
  have HL := Lib.hid h
  clear hR hR0 h
  go_enter Tryz.func49, Tryz.ntmps49
  go_wp2_with fail
  go_loopw [5, 6] (fun lv nv wr => TaRel w t R lv nv wr) (fun _ nv _ => t.size - (intOf nv).toNat)
  case atStart =>
    refine ⟨_, 0, t.size, [], rfl, rfl, by omega, by omega, .inr ⟨w.heap.size, 0, 0, #[], rfl, ?_, Nat.le_refl _, by unfold maxLen; omega, Nat.le_refl _, by simp⟩, ⟨_, rfl, Nat.le_refl _⟩, Nat.le_refl _, HR, (Below.refl _ _).alloc (Nat.le_refl _) _⟩
    have h := heap_alloc_new w (.cells #[] 9)
    simpa using h
  case round =>
    obtain ⟨lv, n, f, acc, hlv, rfl, hn, hf, hrec, ⟨g, hg, hgw⟩, hacc, hH, hB⟩ := hrel
    subst hlv
    obtain ⟨T, hT⟩ : ∃ T, t.extract n t.size = T := ⟨_, rfl⟩
    have hTz : T.size = t.size - n := by rw [← hT, ByteArray.size_extract]; omega
    have hH' := hH.out
    rw [hT] at hH'
    by_cases hlt : n < t.size
    · have hlt' : (n : Int) < (t.size : Int) := by omega
      obtain ⟨f, rfl⟩ : ∃ f', f = f' + 1 := ⟨f - 1, by omega⟩
      rw [walkS, if_neg (by omega)] at hH'
      have C := jturn_p T (by omega) wr (HL.out.below hB)
      rcases turn_err T with e0 | e0 | e0
      · rw [if_pos e0] at hH'
        have bd := turn_bd e0
        rw [e0] at C
        generalize turnS T = q at *
        obtain ⟨s, k, e⟩ := q
        simp only at hH' C bd e0
        obtain ⟨b1, b2⟩ := bd
        have hx : T.extract k T.size = t.extract (n + k) t.size := by
          rw [← hT]
          apply ByteArray.ext
          apply Array.ext'
          rw [Lib.extract_data, Lib.extract_data, Lib.extract_data, ByteArray.size_extract, List.drop_take, List.drop_drop, List.take_take]
          congr 1
          omega
        rw [hx] at hH'
        have HC := Lib.hid C
        have HH := Lib.hid (And.intro hH' (And.intro hrec hB))
        have HT := Lib.hid hT
        have hs0 : 0 ≤ (n : Int) := by omega
        clear C hH' hH hrec hB hx
        go_wp2_with fail
        refine HC.out.mono ?_
        rintro _ w2 ⟨rfl, hb2⟩
        have HB2 := Lib.hid hb2
        have HR2 : Hid (∀ ty, Recs (w2.alloc (.cells #[.string s] ty)) lv acc) := Lib.hid (fun ty => (HH.out.2.1.kept (fun g hg => by
          have h1 := HH.out.2.1.lt hg
          rw [Below.heap_alloc _ _ _ (Nat.lt_of_lt_of_le h1 hb2.size)]
          exact hb2.block g h1)))
        have hcl : ∀ (W : World) (ty : TypeId), (W.alloc (.cells #[.string s] ty)).cell? ⟨W.heap.size, 0, none⟩ = some (.string s) := by
          intro W ty
          go_simp
        have HCL := Lib.hid hcl
        clear hb2 hcl
        go_wp2_with (at_builtin; refine wpList_append_recs rfl (.tmp 28) (.tmp 30) rfl lv acc rfl (HR2.out _) (by omega) ⟨w2.heap.size, 0, none⟩ 1 s rfl (HCL.out _ _) ?_; intro v' w3 hr3 hg3 hl3; have HR3 := Lib.hid (And.intro hr3 (And.intro hg3 hl3)); clear hr3 hg3 hl3)
        go_roundw
        case rel =>
          obtain ⟨hr3, hg3, hl3⟩ := HR3.out
          have hB := HH.out.2.2
          have hw2 : w.heap.size ≤ w2.heap.size := Nat.le_trans hB.size HB2.out.size
          refine ⟨_, n + k, f, acc ++ [s], rfl, by go_num, by omega, by omega, hr3, ?_, by simp; omega, Lib.hid ?_, ?_⟩
          · rcases hl3 with h | h
            · exact ⟨g, by rw [h]; exact hg, hgw⟩
            · exact ⟨_, h, by simp; omega⟩
          · rw [HH.out.1]
            simp [Nat.add_assoc]
          · refine ((hB.trans (HB2.out.mono hB.size)).alloc hw2 _).grown hg3 (by simp; omega) (fun k hk => ?_)
            rw [hg] at hk
            obtain rfl := Option.some.inj hk
            exact hgw
        case measure => simp [intOf]; omega
      · rw [if_neg (by rw [e0]; decide), if_pos e0] at hH'
        rw [e0] at C
        generalize turnS T = q at *
        obtain ⟨s, k, e⟩ := q
        simp only [List.append_nil, Nat.add_zero] at hH' C
        subst hH'
        have HC := Lib.hid C
        have HH := Lib.hid (And.intro hrec hB)
        have HT := Lib.hid hT
        have hs0 : 0 ≤ (n : Int) := by omega
        clear C hH hrec hB
        go_wp2_with fail
        refine HC.out.mono ?_
        rintro _ w2 ⟨rfl, hb2⟩
        have HB2 := Lib.hid hb2
        clear hb2
        go_wp2_with fail
        refine bodyPost_ret (v := .tuple #[lv, .int .i64 (n : Int), .int .i64 0]) (by simp [results, Tryz.results49, go_sem]) rfl ⟨HH.out.2.trans (HB2.out.mono HH.out.2.size), .inr ⟨rfl, lv, rfl, HH.out.1.kept (fun g hg => HB2.out.block g (HH.out.1.lt hg)), g, hg, hgw⟩⟩
      · rw [if_neg (by rw [e0]; decide), if_neg (by rw [e0]; decide)] at hH'
        rw [e0] at C
        generalize turnS T = q at *
        obtain ⟨s, k, e⟩ := q
        simp only [List.append_nil, Nat.add_zero] at hH' C
        subst hH'
        have HC := Lib.hid C
        have HH := Lib.hid hB
        have HT := Lib.hid hT
        have hs0 : 0 ≤ (n : Int) := by omega
        clear C hH hrec hB
        go_wp2_with fail
        refine HC.out.mono ?_
        rintro _ w2 ⟨rfl, hb2⟩
        have HB2 := Lib.hid hb2
        clear hb2
        go_wp2_with fail
        refine bodyPost_ret (v := .tuple #[.slice none 0 0, .int .i64 0, .int .i64 3]) (by simp [results, Tryz.results49, go_sem]) rfl ⟨HH.out.trans (HB2.out.mono HH.out.size), .inl ⟨(by decide : (3 : Int) ≠ 0), rfl⟩⟩
    · have hlt' : ¬ (n : Int) < (t.size : Int) := by omega
      have hw0 : walkS f T = ([], 0, 0) := by
        cases f with
        | zero => rfl
        | succ f => rw [walkS, if_pos (by omega)]
      rw [hw0] at hH'
      simp only [List.append_nil, Nat.add_zero] at hH'
      subst hH'
      have HH := Lib.hid (And.intro hrec hB)
      clear hH hrec hB
      go_wp2_with fail
      refine bodyPost_ret (v := .tuple #[lv, .int .i64 (n : Int), .int .i64 0]) (by simp [results, Tryz.results49, go_sem]) rfl ⟨HH.out.2, .inr ⟨rfl, lv, rfl, HH.out.1, g, hg, hgw⟩⟩
end Go.Proofs.YtaacdggjkfmehaaGreatDoor
