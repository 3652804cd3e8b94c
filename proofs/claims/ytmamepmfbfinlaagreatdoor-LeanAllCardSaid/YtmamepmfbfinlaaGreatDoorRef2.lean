/-
  The contracts of the reference's Pow, On and Mark (loops over a pair in memory).
-/
import Derived.Test.YtmamepmfbfinlaaGreatDoorRef1
import Derived.Test.YtmamepmfbfinlaaGreatDoorMath
import Derived.LoopTactic
import Derived.Deep.RegionWith
namespace Go.Proofs.YtmamepmfbfinlaaGreatDoor
open Go.RowKit Go.Proofs.Flo Go.Proofs.Cpl

def pq (p : Int × Int) : Value := pz p.1 p.2

theorem rmul_pq (p q : Int × Int) (hp : Ok p) (hq : Ok q) (w : World) :
    Calls Tryz.prog 25 #[.agg #[.int .i64 p.1, .int .i64 p.2], .agg #[.int .i64 q.1, .int .i64 q.2]] w fun e w' => e = .returned (.agg #[.int .i64 (gmul p q).1, .int .i64 (gmul p q).2]) ∧ Below w.heap.size w w' :=
  rmul_any p.1 p.2 q.1 q.2 hp.1 hp.2 hq.1 hq.2 w

/-- A pair in memory at block b. -/
def At (w : World) (b : Nat) (p : Int × Int) : Prop :=
  (w.cell? ⟨b, 0, none⟩ = some (.int .i64 p.1) ∧ w.cell? ⟨b, 1, none⟩ = some (.int .i64 p.2)) ∧ (w.frozen? ⟨b, 0, none⟩ = false ∧ w.frozen? ⟨b, 1, none⟩ = false) ∧ b < w.heap.size

theorem At.below {w w' : World} {b : Nat} {p : Int × Int} (h : At w b p) (hb : Below w.heap.size w w') : At w' b p := by
  obtain ⟨⟨c0, c1⟩, ⟨z0, z1⟩, hs⟩ := h
  refine ⟨⟨?_, ?_⟩, ⟨?_, ?_⟩, Nat.lt_of_lt_of_le hs hb.size⟩
  · rw [hb.cell hs]; exact c0
  · rw [hb.cell hs]; exact c1
  · rw [hb.frozen hs]; exact z0
  · rw [hb.frozen hs]; exact z1

theorem At.alloc {w : World} {b : Nat} {p : Int × Int} (h : At w b p) (o : Obj) : At (w.alloc o) b p :=
  h.below ((Below.refl _ _).alloc (Nat.le_refl _) _)

theorem At.new (w : World) (a b : Int) (t : TypeId) : At (w.alloc (.cells #[.int .i64 a, .int .i64 b] t)) w.heap.size (a, b) := by
  refine ⟨⟨?_, ?_⟩, ⟨?_, ?_⟩, ?_⟩
  · go_simp
  · go_simp
  · go_simp
  · go_simp
  · simp

theorem At.set {w : World} {b : Nat} {p q : Int × Int} (h : At w b p) : At ((w.setCell ⟨b, 0, none⟩ (.int .i64 q.1)).setCell ⟨b, 1, none⟩ (.int .i64 q.2)) b q := by
  obtain ⟨⟨c0, c1⟩, ⟨z0, z1⟩, hs⟩ := h
  refine ⟨⟨?_, ?_⟩, ⟨?_, ?_⟩, ?_⟩
  · go_simp
  · go_simp
  · go_simp
  · go_simp
  · simpa using hs

theorem At.other {w : World} {b c : Nat} {p q : Int × Int} (h : At w b p) (hc : b ≠ c) : At ((w.setCell ⟨c, 0, none⟩ (.int .i64 q.1)).setCell ⟨c, 1, none⟩ (.int .i64 q.2)) b p := by
  obtain ⟨⟨c0, c1⟩, ⟨z0, z1⟩, hs⟩ := h
  have hne : ∀ i j, (⟨c, i, none⟩ : Addr) ≠ ⟨b, j, none⟩ := fun i j e => hc (Addr.mk.inj e).1.symm
  refine ⟨⟨?_, ?_⟩, ⟨?_, ?_⟩, ?_⟩
  · go_simp
  · go_simp
  · go_simp
  · go_simp
  · simpa using hs

set_option maxRecDepth 100000 in
set_option maxHeartbeats 400000 in
theorem rpow_any (p : Int × Int) (n : Nat) (hp : Ok p) (hn : n ≤ 1000) (w : World) :
    Calls Tryz.prog 27 #[.agg #[.int .i64 p.1, .int .i64 p.2], .int .i64 n] w fun e w' => e = .returned (pq (gpow p n)) ∧ Below w.heap.size w w' := by
  go_enter Tryz.func27, Tryz.ntmps27
  go_wp2
  go_loopw [6] (fun i wr => ∃ k : Nat, k ≤ n ∧ i = .int .i64 k ∧ At wr w.heap.size p ∧ At wr (w.heap.size + 1) (0, 0) ∧ At wr (w.heap.size + 1 + 1) (gpow p k) ∧ Below w.heap.size w wr) (fun i _ => n - (intOf i).toNat)
  case atStart =>
    refine ⟨0, Nat.zero_le _, rfl, ?_, ?_, ?_, ?_⟩
    · exact ((At.new w p.1 p.2 _).alloc _).alloc _
    · have h := (At.new (w.alloc (.cells #[.int .i64 p.1, .int .i64 p.2] 46)) 0 0 46).alloc (.cells #[.int .i64 1, .int .i64 0] 46)
      simpa using h
    · have h := At.new ((w.alloc (.cells #[.int .i64 p.1, .int .i64 p.2] 46)).alloc (.cells #[.int .i64 0, .int .i64 0] 46)) 1 0 46
      show At _ _ (1, 0)
      simpa using h
    · exact (((Below.refl _ _).alloc (Nat.le_refl _) _).alloc (by simp) _).alloc (by simp only [World.size_alloc]; omega) _
  case round =>
    obtain ⟨k, hk, rfl, ha, hr, ho, hB⟩ := hrel
    by_cases hlt : k < n
    · have HA := Lib.hid ha
      have HR := Lib.hid hr
      have HO := Lib.hid ho
      obtain ⟨⟨a0, a1⟩, ⟨y0, y1⟩, _⟩ := ha
      obtain ⟨⟨c0, c1⟩, ⟨z0, z1⟩, _⟩ := ho
      clear hr
      go_wp2_with fail
      refine (rmul_pq (gpow p k) p (ok_gpow p k) hp _).mono ?_
      rintro e w1 ⟨rfl, hb⟩
      clear a0 a1 y0 y1 c0 c1 z0 z1
      have ho := HO.out.below hb
      have HO1 := Lib.hid ho
      obtain ⟨⟨c0, c1⟩, ⟨z0, z1⟩, _⟩ := ho
      go_wp2_with fail
      go_roundw
      case rel =>
        refine ⟨k + 1, by omega, by go_num, ?_, ?_, ?_, ?_⟩
        · exact (HA.out.below hb).other (by omega)
        · exact (HR.out.below hb).other (by omega)
        · exact HO1.out.set
        · exact ((hB.trans (hb.mono hB.size)).setCell (by simp; omega) _).setCell (by simp; omega) _
      case measure => simp [intOf]; omega
    · have hkn : k = n := by omega
      subst hkn
      have HR := Lib.hid hr
      have HO := Lib.hid ho
      obtain ⟨⟨c0, c1⟩, ⟨z0, z1⟩, _⟩ := ho
      obtain ⟨⟨a0, a1⟩, ⟨y0, y1⟩, _⟩ := hr
      clear ha
      go_wp2_with fail
      have h2 := HR.out.set (q := gpow p k)
      obtain ⟨⟨d0, d1⟩, _, _⟩ := h2
      exact bodyPost_ret (v := .agg #[.int .i64 (gpow p k).1, .int .i64 (gpow p k).2]) (by simp [results, Tryz.results27, go_sem, d0, d1]) rfl
        ⟨rfl, (hB.setCell (by simp) _).setCell (by simp) _⟩


theorem radd_pq (p q : Int × Int) (hp : Ok p) (hq : (0 ≤ q.1 ∧ q.1 ≤ 65520) ∧ (0 ≤ q.2 ∧ q.2 ≤ 65520)) (w : World) :
    Calls Tryz.prog 54 #[.agg #[.int .i64 p.1, .int .i64 p.2], .agg #[.int .i64 q.1, .int .i64 q.2]] w fun e w' => e = .returned (.agg #[.int .i64 (gadd p q).1, .int .i64 (gadd p q).2]) ∧ Below w.heap.size w w' := by
  unfold Ok at hp
  exact radd_any p.1 p.2 q.1 q.2 (by omega) (by omega) (by omega) (by omega) w

theorem rmul35 (p : Int × Int) (hp : Ok p) (w : World) :
    Calls Tryz.prog 25 #[.agg #[.int .i64 p.1, .int .i64 p.2], .agg #[.int .i64 3, .int .i64 5]] w fun e w' => e = .returned (.agg #[.int .i64 (gmul p (3, 5)).1, .int .i64 (gmul p (3, 5)).2]) ∧ Below w.heap.size w w' :=
  rmul_pq p (3, 5) hp (by unfold Ok; decide) w

theorem radd_byte (p : Int × Int) (x : Int) (hp : Ok p) (h0 : 0 ≤ x) (h1 : x ≤ 65520) (w : World) :
    Calls Tryz.prog 54 #[.agg #[.int .i64 p.1, .int .i64 p.2], .agg #[.int .i64 x, .int .i64 0]] w fun e w' => e = .returned (.agg #[.int .i64 (gadd p (x, 0)).1, .int .i64 (gadd p (x, 0)).2]) ∧ Below w.heap.size w w' :=
  radd_pq p (x, 0) hp ⟨⟨h0, h1⟩, ⟨by simp, by simp⟩⟩ w

theorem At.drew {w : World} {b : Nat} {p : Int × Int} (h : At w b p) : At w.drew b p := h

theorem take_snoc (s : ByteArray) (k : Nat) (h : k < s.size) : s.data.toList.take (k + 1) = s.data.toList.take k ++ [s[k]] := by
  rw [List.take_succ_eq_append_getElem (by simpa using h)]; rfl

set_option maxRecDepth 100000 in
set_option maxHeartbeats 400000 in
theorem ron_any (z : Int × Int) (s : ByteArray) (hz : Ok z) (hs : s.size ≤ maxLen) (w : World) :
    Calls Tryz.prog 36 #[.agg #[.int .i64 z.1, .int .i64 z.2], .string s] w fun e w' => e = .returned (pq (gon z s.data.toList)) ∧ Below w.heap.size w w' := by
  unfold maxLen at hs
  go_enter Tryz.func36, Tryz.ntmps36
  go_wp2
  go_loopw [5] (fun i wr => ∃ k : Nat, k ≤ s.size ∧ i = .int .i64 k ∧ At wr w.heap.size (gon z (s.data.toList.take k)) ∧ At wr (w.heap.size + 1) (0, 0) ∧ Below w.heap.size w wr) (fun i _ => s.size - (intOf i).toNat)
  case atStart =>
    refine ⟨0, Nat.zero_le _, rfl, ?_, ?_, ?_⟩
    · exact (At.new w z.1 z.2 _).alloc _
    · have h := At.new (w.alloc (.cells #[.int .i64 z.1, .int .i64 z.2] 46)) 0 0 46
      simpa using h
    · exact ((Below.refl _ _).alloc (Nat.le_refl _) _).alloc (by simp) _
  case round =>
    obtain ⟨k, hk, rfl, hz', hr, hB⟩ := hrel
    by_cases hlt : k < s.size
    · have HZ := Lib.hid hz'
      have HR := Lib.hid hr
      have hok := ok_gon hz (s.data.toList.take k)
      have hsn := Lib.hid (gon_snoc z (s.data.toList.take k) s[k])
      have hts := Lib.hid (take_snoc s k hlt)
      obtain ⟨⟨a0, a1⟩, ⟨y0, y1⟩, _⟩ := hz'
      clear hr
      generalize hg : gon z (s.data.toList.take k) = g at *
      have HG := Lib.hid hg
      clear hg
      have hu := s[k].toNat_lt
      have hlt' : (k : Int) < (s.size : Int) := by omega
      have q1 : IntKind.i64.wrap (s[k].toNat : Int) = (s[k].toNat : Int) := IntWalk.i64_in _ (by omega)
      have q2 : IntKind.i64.wrap ((s[k].toNat : Int) + 1) = (s[k].toNat : Int) + 1 := IntWalk.i64_in _ (by omega)
      go_wp2_with fail
      go_region_with (first
        | (go_at_call 25; refine (rmul35 g hok _).mono ?_; rintro e w1 ⟨rfl, hb⟩)
        | (go_at_call 54; refine (radd_byte (gmul g (3, 5)) _ (ok_gmul _ _) (by omega) (by omega) _).mono ?_; rintro e w2 ⟨rfl, hb2⟩; have h2 := (HZ.out.drew.below hb).below hb2; have H2 := Lib.hid h2; obtain ⟨⟨c0, c1⟩, ⟨z0, z1⟩, _⟩ := h2; clear a0 a1 y0 y1))
      all_goals
        go_wp2_with fail
        go_roundw
        case rel =>
          refine ⟨k + 1, by omega, by go_num, ?_, ?_, ?_⟩
          · rw [hts.out, hsn.out]
            exact H2.out.set
          · exact ((HR.out.drew.below hb).below hb2).other (by omega)
          · exact (((hB.drew.trans (hb.mono hB.size)).trans (hb2.mono (Nat.le_trans hB.size hb.size))).setCell (by simp) _).setCell (by simp) _
        case measure => simp [intOf]; omega
    · have hkn : s.data.toList.take k = s.data.toList := List.take_of_length_le (by simp; omega)
      rw [hkn] at hz'
      have hn' : (s.size : Int) ≤ (k : Int) := by omega
      have HR := Lib.hid hr
      obtain ⟨⟨c0, c1⟩, ⟨z0, z1⟩, _⟩ := hz'
      obtain ⟨⟨a0, a1⟩, ⟨y0, y1⟩, _⟩ := hr
      clear hkn
      generalize hg : gon z s.data.toList = g at *
      have HG := Lib.hid hg
      clear hg
      go_wp2_with fail
      have h2 := HR.out.set (q := g)
      obtain ⟨⟨d0, d1⟩, _, _⟩ := h2
      exact bodyPost_ret (v := .agg #[.int .i64 g.1, .int .i64 g.2]) (by simp [results, Tryz.results36, go_sem, d0, d1]) rfl
        ⟨by rw [HG.out]; rfl, (hB.setCell (by simp) _).setCell (by simp) _⟩

set_option maxRecDepth 100000 in
set_option maxHeartbeats 400000 in
theorem rmark_any (s : ByteArray) (hs : s.size ≤ maxLen) (w : World) :
    Calls Tryz.prog 26 #[.string s] w fun e w' => e = .returned (pq (gon (0, 1) s.data.toList)) ∧ Below w.heap.size w w' := by
  have r := ron_any (0, 1) s (by unfold Ok; decide) hs
  have R := Lib.hid r
  clear r
  unfold pq pz at R
  unfold pq pz
  generalize gon (0, 1) s.data.toList = g at *
  go_enter Tryz.func26, Tryz.ntmps26
  go_wp2_with fail
  refine (R.out _).mono ?_
  rintro e w1 ⟨rfl, hb⟩
  have h1 := (At.new w 0 0 46).below hb
  have H1 := Lib.hid h1
  obtain ⟨⟨c0, c1⟩, ⟨z0, z1⟩, _⟩ := h1
  go_wp2_with fail
  have h2 := H1.out.set (q := g)
  obtain ⟨⟨d0, d1⟩, _, _⟩ := h2
  exact bodyPost_ret (v := .agg #[.int .i64 g.1, .int .i64 g.2]) (by simp [results, Tryz.results26, go_sem, d0, d1]) rfl
    ⟨rfl, (((((Below.refl _ _).alloc (Nat.le_refl _) _).trans (hb.mono (by simp))).setCell (by simp) _).setCell (by simp) _)⟩

end Go.Proofs.YtmamepmfbfinlaaGreatDoor
