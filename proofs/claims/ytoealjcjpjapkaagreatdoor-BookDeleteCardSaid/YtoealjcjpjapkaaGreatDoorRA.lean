/-
 Contracts of the program, and what they rest on.
-/
import Derived.Test.YtoealjcjpjapkaaGreatDoorProg
import Derived.Test.YtoealjcjpjapkaaGreatDoorM01
import Derived.WalkKit
import Derived.WalkSpells
import Derived.WalkLawsBesides
import Derived.Lib.Hide
import Derived.Deep.QuietTactic
import Derived.BigQuiet
import Derived.StillTailTactics
import Derived.Test.YtoealjcjpjapkaaGreatDoorM03
import Derived.LoopTactic
import Derived.Deep.RegionWith
import Derived.BigRegion
import Derived.Test.YtoealjcjpjapkaaGreatDoorShelf
import Derived.Lib.AtoiErrMem
import Derived.Lib.QuietBelow
import Derived.Test.YtoealjcjpjapkaaGreatDoorM14
import Derived.Test.YtoealjcjpjapkaaGreatDoorM11
import Derived.Test.YtoealjcjpjapkaaGreatDoorM18
set_option maxRecDepth 100000
set_option maxHeartbeats 16000000
namespace Go.Proofs.YtoealjcjpjapkaaGreatDoor
open Go.RowKit Go.Proofs.Flo
theorem ret_int {k : IntKind} {a b : Int} (h : a = b) : Ending.returned (.int k a) = .returned (.int k b) := by rw [h]
theorem tmod_prime (n : Int) : (n.tmod 65521 < 0 → n.tmod 65521 + 65521 = n % 65521) ∧ (¬ n.tmod 65521 < 0 → n.tmod 65521 = n % 65521) ∧ -65521 < n.tmod 65521 ∧ n.tmod 65521 < 65521 := by
 have h1 := Int.tmod_lt_of_pos n (show (0 : Int) < 65521 by decide)
 have h2 := Int.lt_tmod_of_pos n (show (0 : Int) < 65521 by decide)
 have h3 := Int.tmod_add_mul_tdiv n 65521
 generalize n.tmod 65521 = r at *
 generalize n.tdiv 65521 = q at *
 refine ⟨fun h => ?_, fun h => ?_, by omega, h1⟩
 ·omega
 ·omega
theorem rmod_any (n : Int) (w : World) :
  Calls Tryz.prog 181 #[.int .i64 n] w fun e w' => e = .returned (.int .i64 (n % 65521)) ∧ w = w' := by
 obtain ⟨h1, h2, h3, h4⟩ := tmod_prime n
 by_cases h : n.tmod 65521 < 0
 ·have e := Lib.hid (h1 h)
  clear h1 h2
  have hf : 0 ≤ n.tmod 65521 + 65521 := by omega
  go_enter Tryz.func181, Tryz.ntmps181
  go_wp2
  go_ret
  exact ⟨ret_int e.out, rfl⟩
 ·have e := Lib.hid (h2 h)
  clear h1 h2
  go_enter Tryz.func181, Tryz.ntmps181
  go_wp2
  go_ret
  exact ⟨ret_int e.out, rfl⟩
theorem rmod_q (n : Int) (w : World) :
  Calls Tryz.prog 181 #[.int .i64 n] w fun e w' => e = .returned (.int .i64 (n % 65521)) ∧ w' = w :=
 (rmod_any n w).mono fun _ _ h => ⟨h.1, h.2.symm⟩
def pz (a b : Int) : Value := .agg #[.int .i64 a, .int .i64 b]
theorem radd_any (a b c d : Int) (h1 : -9223372036854775808 ≤ a + c) (h2 : a + c ≤ 9223372036854775807) (h3 : -9223372036854775808 ≤ b + d) (h4 : b + d ≤ 9223372036854775807) (w : World) :
  Calls Tryz.prog 155 #[pz a b, pz c d] w fun e w' => e = .returned (pz ((a + c) % 65521) ((b + d) % 65521)) ∧ Below w.heap.size w w' := by
 unfold pz
 go_enter Tryz.func155, Tryz.ntmps155
 go_wp2_with fail
 obtain ⟨W2, HW⟩ : ∃ W2, Hid (W2 = ((w.alloc (.cells #[.int .i64 a, .int .i64 b] 54)).alloc (.cells #[.int .i64 c, .int .i64 d] 54)).alloc (.cells #[.int .i64 0, .int .i64 0] 54)) := ⟨_, Lib.hid rfl⟩
 rw [← HW.out]
 have f0 : W2.cell? ⟨w.heap.size, 0, none⟩ = some (.int .i64 a) := by rw [HW.out]; go_simp
 have f1 : W2.cell? ⟨w.heap.size, 1, none⟩ = some (.int .i64 b) := by rw [HW.out]; go_simp
 have f2 : W2.cell? ⟨w.heap.size + 1, 0, none⟩ = some (.int .i64 c) := by rw [HW.out]; go_simp
 have f3 : W2.cell? ⟨w.heap.size + 1, 1, none⟩ = some (.int .i64 d) := by rw [HW.out]; go_simp
 have s1 : IntKind.i64.wrap (a + c) = a + c := IntWalk.i64_in _ (by omega)
 have s2 : IntKind.i64.wrap (b + d) = b + d := IntWalk.i64_in _ (by omega)
 refine wp_region_still_tail 12 (by kernel_rfl) (by kernel_rfl) ?_
 simp only [List.take_succ_cons, List.take_zero, List.drop_succ_cons, List.drop_zero]
 repeat still_step
 still_call (rmod_q _ _)
 repeat still_step
 still_call (rmod_q _ _)
 refine wpStill_nil ?_
 change wpList _ _ _ _ _ W2.drew
 rw [HW.out]
 clear f0 f1 f2 f3 HW s1 s2
 go_wp2
 exact bodyPost_ret (v := .agg #[.int .i64 ((a + c) % 65521), .int .i64 ((b + d) % 65521)]) (by simp [results, Tryz.results155, go_sem]) rfl
  ⟨rfl, ((((Below.refl _ _).alloc (Nat.le_refl _) _).alloc (by simp) _).alloc (by simp only [World.size_alloc]; omega) _).drew⟩
theorem rmul_any (a b c d : Int) (ha : 0 ≤ a ∧ a ≤ 65520) (hb : 0 ≤ b ∧ b ≤ 65520) (hc : 0 ≤ c ∧ c ≤ 65520) (hd : 0 ≤ d ∧ d ≤ 65520) (w : World) :
  Calls Tryz.prog 156 #[pz a b, pz c d] w fun e w' => e = .returned (pz ((a * c - b * d) % 65521) ((a * d + b * c) % 65521)) ∧ Below w.heap.size w w' := by
 have pb : ∀ {x y : Int}, (0 ≤ x ∧ x ≤ 65520) → (0 ≤ y ∧ y ≤ 65520) → 0 ≤ x * y ∧ x * y ≤ 4292870400 := by
  intro x y hx hy
  refine ⟨Int.mul_nonneg hx.1 hy.1, ?_⟩
  have := Int.mul_le_mul hx.2 hy.2 hy.1 (by omega)
  omega
 have b1 := pb ha hc
 have b2 := pb hb hd
 have b3 := pb ha hd
 have b4 := pb hb hc
 unfold pz
 go_enter Tryz.func156, Tryz.ntmps156
 go_wp2_with fail
 obtain ⟨W2, HW⟩ : ∃ W2, Hid (W2 = ((w.alloc (.cells #[.int .i64 a, .int .i64 b] 54)).alloc (.cells #[.int .i64 c, .int .i64 d] 54)).alloc (.cells #[.int .i64 0, .int .i64 0] 54)) := ⟨_, Lib.hid rfl⟩
 rw [← HW.out]
 have f0 : W2.cell? ⟨w.heap.size, 0, none⟩ = some (.int .i64 a) := by rw [HW.out]; go_simp
 have f1 : W2.cell? ⟨w.heap.size, 1, none⟩ = some (.int .i64 b) := by rw [HW.out]; go_simp
 have f2 : W2.cell? ⟨w.heap.size + 1, 0, none⟩ = some (.int .i64 c) := by rw [HW.out]; go_simp
 have f3 : W2.cell? ⟨w.heap.size + 1, 1, none⟩ = some (.int .i64 d) := by rw [HW.out]; go_simp
 have s1 : IntKind.i64.wrap (a * c) = a * c := IntWalk.i64_in _ (by omega)
 have s2 : IntKind.i64.wrap (b * d) = b * d := IntWalk.i64_in _ (by omega)
 have s3 : IntKind.i64.wrap (a * d) = a * d := IntWalk.i64_in _ (by omega)
 have s4 : IntKind.i64.wrap (b * c) = b * c := IntWalk.i64_in _ (by omega)
 have s5 : IntKind.i64.wrap (a * c - b * d) = a * c - b * d := IntWalk.i64_in _ (by omega)
 have s6 : IntKind.i64.wrap (a * d + b * c) = a * d + b * c := IntWalk.i64_in _ (by omega)
 clear b1 b2 b3 b4 pb ha hb hc hd
 refine wp_region_still_tail 24 (by kernel_rfl) (by kernel_rfl) ?_
 simp only [List.take_succ_cons, List.take_zero, List.drop_succ_cons, List.drop_zero]
 repeat still_step
 still_call (rmod_q _ _)
 repeat still_step
 still_call (rmod_q _ _)
 refine wpStill_nil ?_
 change wpList _ _ _ _ _ W2.drew
 rw [HW.out]
 clear f0 f1 f2 f3 HW s1 s2 s3 s4 s5 s6
 go_wp2
 exact bodyPost_ret (v := .agg #[.int .i64 ((a * c - b * d) % 65521), .int .i64 ((a * d + b * c) % 65521)]) (by simp [results, Tryz.results156, go_sem]) rfl
  ⟨rfl, ((((Below.refl _ _).alloc (Nat.le_refl _) _).alloc (by simp) _).alloc (by simp only [World.size_alloc]; omega) _).drew⟩
end Go.Proofs.YtoealjcjpjapkaaGreatDoor
namespace Go.Proofs.YtoealjcjpjapkaaGreatDoor
open Go.RowKit Go.Proofs.Flo Go.Proofs.Cpl
def pq (p : Int × Int) : Value := pz p.1 p.2
theorem rmul_pq (p q : Int × Int) (hp : Ok p) (hq : Ok q) (w : World) :
  Calls Tryz.prog 156 #[.agg #[.int .i64 p.1, .int .i64 p.2], .agg #[.int .i64 q.1, .int .i64 q.2]] w fun e w' => e = .returned (.agg #[.int .i64 (gmul p q).1, .int .i64 (gmul p q).2]) ∧ Below w.heap.size w w' :=
 rmul_any p.1 p.2 q.1 q.2 hp.1 hp.2 hq.1 hq.2 w
theorem At.below {w w' : World} {b : Nat} {p : Int × Int} (h : At w b p) (hb : Below w.heap.size w w') : At w' b p := by
 obtain ⟨⟨c0, c1⟩, ⟨z0, z1⟩, hs⟩ := h
 refine ⟨⟨?_, ?_⟩, ⟨?_, ?_⟩, Nat.lt_of_lt_of_le hs hb.size⟩
 ·rw [hb.cell hs]; exact c0
 ·rw [hb.cell hs]; exact c1
 ·rw [hb.frozen hs]; exact z0
 ·rw [hb.frozen hs]; exact z1
theorem At.alloc {w : World} {b : Nat} {p : Int × Int} (h : At w b p) (o : Obj) : At (w.alloc o) b p :=
 h.below ((Below.refl _ _).alloc (Nat.le_refl _) _)
theorem At.new (w : World) (a b : Int) (t : TypeId) : At (w.alloc (.cells #[.int .i64 a, .int .i64 b] t)) w.heap.size (a, b) := by
 refine ⟨⟨?_, ?_⟩, ⟨?_, ?_⟩, ?_⟩
 ·go_simp
 ·go_simp
 ·go_simp
 ·go_simp
 ·simp
theorem At.set {w : World} {b : Nat} {p q : Int × Int} (h : At w b p) : At ((w.setCell ⟨b, 0, none⟩ (.int .i64 q.1)).setCell ⟨b, 1, none⟩ (.int .i64 q.2)) b q := by
 obtain ⟨⟨c0, c1⟩, ⟨z0, z1⟩, hs⟩ := h
 refine ⟨⟨?_, ?_⟩, ⟨?_, ?_⟩, ?_⟩
 ·go_simp
 ·go_simp
 ·go_simp
 ·go_simp
 ·simpa using hs
theorem At.other {w : World} {b c : Nat} {p q : Int × Int} (h : At w b p) (hc : b ≠ c) : At ((w.setCell ⟨c, 0, none⟩ (.int .i64 q.1)).setCell ⟨c, 1, none⟩ (.int .i64 q.2)) b p := by
 obtain ⟨⟨c0, c1⟩, ⟨z0, z1⟩, hs⟩ := h
 have hne : ∀ i j, (⟨c, i, none⟩ : Addr) ≠ ⟨b, j, none⟩ := fun i j e => hc (Addr.mk.inj e).1.symm
 refine ⟨⟨?_, ?_⟩, ⟨?_, ?_⟩, ?_⟩
 ·go_simp
 ·go_simp
 ·go_simp
 ·go_simp
 ·simpa using hs
theorem radd_pq (p q : Int × Int) (hp : Ok p) (hq : (0 ≤ q.1 ∧ q.1 ≤ 65520) ∧ (0 ≤ q.2 ∧ q.2 ≤ 65520)) (w : World) :
  Calls Tryz.prog 155 #[.agg #[.int .i64 p.1, .int .i64 p.2], .agg #[.int .i64 q.1, .int .i64 q.2]] w fun e w' => e = .returned (.agg #[.int .i64 (gadd p q).1, .int .i64 (gadd p q).2]) ∧ Below w.heap.size w w' := by
 unfold Ok at hp
 exact radd_any p.1 p.2 q.1 q.2 (by omega) (by omega) (by omega) (by omega) w
theorem rmul35 (p : Int × Int) (hp : Ok p) (w : World) :
  Calls Tryz.prog 156 #[.agg #[.int .i64 p.1, .int .i64 p.2], .agg #[.int .i64 3, .int .i64 5]] w fun e w' => e = .returned (.agg #[.int .i64 (gmul p (3, 5)).1, .int .i64 (gmul p (3, 5)).2]) ∧ Below w.heap.size w w' :=
 rmul_pq p (3, 5) hp (by unfold Ok; decide) w
theorem radd_byte (p : Int × Int) (x : Int) (hp : Ok p) (h0 : 0 ≤ x) (h1 : x ≤ 65520) (w : World) :
  Calls Tryz.prog 155 #[.agg #[.int .i64 p.1, .int .i64 p.2], .agg #[.int .i64 x, .int .i64 0]] w fun e w' => e = .returned (.agg #[.int .i64 (gadd p (x, 0)).1, .int .i64 (gadd p (x, 0)).2]) ∧ Below w.heap.size w w' :=
 radd_pq p (x, 0) hp ⟨⟨h0, h1⟩, ⟨by simp, by simp⟩⟩ w
theorem At.drew {w : World} {b : Nat} {p : Int × Int} (h : At w b p) : At w.drew b p := h
theorem take_snoc (s : ByteArray) (k : Nat) (h : k < s.size) : s.data.toList.take (k + 1) = s.data.toList.take k ++ [s[k]] := by
 rw [List.take_succ_eq_append_getElem (by simpa using h)]; rfl
theorem ron_any (z : Int × Int) (s : ByteArray) (hz : Ok z) (hs : s.size ≤ maxLen) (w : World) :
  Calls Tryz.prog 105 #[.agg #[.int .i64 z.1, .int .i64 z.2], .string s] w fun e w' => e = .returned (pq (gon z s.data.toList)) ∧ Below w.heap.size w w' := by
 unfold maxLen at hs
 go_enter Tryz.func105, Tryz.ntmps105
 go_wp2
 go_loopw [5] (fun i wr => ∃ k : Nat, k ≤ s.size ∧ i = .int .i64 k ∧ At wr w.heap.size (gon z (s.data.toList.take k)) ∧ At wr (w.heap.size + 1) (0, 0) ∧ Below w.heap.size w wr) (fun i _ => s.size - (intOf i).toNat)
 case atStart =>
  refine ⟨0, Nat.zero_le _, rfl, ?_, ?_, ?_⟩
  ·exact (At.new w z.1 z.2 _).alloc _
  ·have h := At.new (w.alloc (.cells #[.int .i64 z.1, .int .i64 z.2] 54)) 0 0 54
   simpa using h
  ·exact ((Below.refl _ _).alloc (Nat.le_refl _) _).alloc (by simp) _
 case round =>
  obtain ⟨k, hk, rfl, hz', hr, hB⟩ := hrel
  by_cases hlt : k < s.size
  ·have HZ := Lib.hid hz'
   have HR := Lib.hid hr
   have hok := ok_gon hz (s.data.toList.take k)
   have hsn := Lib.hid (gon_snoc z (s.data.toList.take k) s[k])
   have hts := Lib.hid (take_snoc s k hlt)
   obtain ⟨⟨a0, a1⟩, ⟨y0, y1⟩, _⟩ := hz'
   clear hr
   generalize hg : gon z (s.data.toList.take k) = g at *
   have HG := Lib.hid hg
   clear hg
   have hu := s[k].toNat_lt
   have hlt' : (k : Int) < (s.size : Int) := by omega
   have q1 : IntKind.i64.wrap (s[k].toNat : Int) = (s[k].toNat : Int) := IntWalk.i64_in _ (by omega)
   have q2 : IntKind.i64.wrap ((s[k].toNat : Int) + 1) = (s[k].toNat : Int) + 1 := IntWalk.i64_in _ (by omega)
   go_wp2_with fail
   go_region_with (first
    | (go_at_call 156; refine (rmul35 g hok _).mono ?_; rintro e w1 ⟨rfl, hb⟩)
    | (go_at_call 155; refine (radd_byte (gmul g (3, 5)) _ (ok_gmul _ _) (by omega) (by omega) _).mono ?_; rintro e w2 ⟨rfl, hb2⟩; have h2 := (HZ.out.drew.below hb).below hb2; have H2 := Lib.hid h2; obtain ⟨⟨c0, c1⟩, ⟨z0, z1⟩, _⟩ := h2; clear a0 a1 y0 y1))
   all_goals
    go_wp2_with fail
    go_roundw
    case rel =>
     refine ⟨k + 1, by omega, by go_num, ?_, ?_, ?_⟩
     ·rw [hts.out, hsn.out]
      exact H2.out.set
     ·exact ((HR.out.drew.below hb).below hb2).other (by omega)
     ·exact (((hB.drew.trans (hb.mono hB.size)).trans (hb2.mono (Nat.le_trans hB.size hb.size))).setCell (by simp) _).setCell (by simp) _
    case measure => simp [intOf]; omega
  ·have hkn : s.data.toList.take k = s.data.toList := List.take_of_length_le (by simp; omega)
   rw [hkn] at hz'
   have hn' : (s.size : Int) ≤ (k : Int) := by omega
   have HR := Lib.hid hr
   obtain ⟨⟨c0, c1⟩, ⟨z0, z1⟩, _⟩ := hz'
   obtain ⟨⟨a0, a1⟩, ⟨y0, y1⟩, _⟩ := hr
   clear hkn
   generalize hg : gon z s.data.toList = g at *
   have HG := Lib.hid hg
   clear hg
   go_wp2_with fail
   have h2 := HR.out.set (q := g)
   obtain ⟨⟨d0, d1⟩, _, _⟩ := h2
   exact bodyPost_ret (v := .agg #[.int .i64 g.1, .int .i64 g.2]) (by simp [results, Tryz.results105, go_sem, d0, d1]) rfl
    ⟨by rw [HG.out]; rfl, (hB.setCell (by simp) _).setCell (by simp) _⟩
theorem rmark_any (s : ByteArray) (hs : s.size ≤ maxLen) (w : World) :
  Calls Tryz.prog 62 #[.string s] w fun e w' => e = .returned (pq (gon (0, 1) s.data.toList)) ∧ Below w.heap.size w w' := by
 have r := ron_any (0, 1) s (by unfold Ok; decide) hs
 have R := Lib.hid r
 clear r
 unfold pq pz at R
 unfold pq pz
 generalize gon (0, 1) s.data.toList = g at *
 go_enter Tryz.func62, Tryz.ntmps62
 go_wp2_with fail
 refine (R.out _).mono ?_
 rintro e w1 ⟨rfl, hb⟩
 have h1 := (At.new w 0 0 54).below hb
 have H1 := Lib.hid h1
 obtain ⟨⟨c0, c1⟩, ⟨z0, z1⟩, _⟩ := h1
 go_wp2_with fail
 have h2 := H1.out.set (q := g)
 obtain ⟨⟨d0, d1⟩, _, _⟩ := h2
 exact bodyPost_ret (v := .agg #[.int .i64 g.1, .int .i64 g.2]) (by simp [results, Tryz.results62, go_sem, d0, d1]) rfl
  ⟨rfl, (((((Below.refl _ _).alloc (Nat.le_refl _) _).trans (hb.mono (by simp))).setCell (by simp) _).setCell (by simp) _)⟩
end Go.Proofs.YtoealjcjpjapkaaGreatDoor
namespace Go.Proofs.YtoealjcjpjapkaaGreatDoor
open Go.RowKit Go.Proofs.Flo Go.Proofs.Cpl
theorem dgr (d : Nat) (hd : d < 16) (h : d < (⟨#[48, 49, 50, 51, 52, 53, 54, 55, 56, 57, 97, 98, 99, 100, 101, 102]⟩ : ByteArray).size) :
  (((⟨#[48, 49, 50, 51, 52, 53, 54, 55, 56, 57, 97, 98, 99, 100, 101, 102]⟩ : ByteArray)[d]'h).toNat : Int) = dg d := by
 rcases d with _|_|_|_|_|_|_|_|_|_|_|_|_|_|_|_|d
 all_goals first | (exfalso; omega) | rfl
theorem rfour (n : Nat) (hn : n < 65536) (w : World) :
  Calls Tryz.prog 73 #[.int .i64 n] w fun e w' => e = .returned (.string (strN (fourL n))) ∧ Below w.heap.size w w' := by
 have q1 : IntKind.i64.wrap ((n : Int) / 4096) = ((n / 4096 : Nat) : Int) := IntWalk.i64_in _ (by omega)
 have q2 : IntKind.i64.wrap ((n : Int) / 256) = ((n / 256 : Nat) : Int) := IntWalk.i64_in _ (by omega)
 have q3 : IntKind.i64.wrap ((n : Int) / 16) = ((n / 16 : Nat) : Int) := IntWalk.i64_in _ (by omega)
 obtain ⟨a, ha⟩ : ∃ a, n / 4096 % 16 = a := ⟨_, rfl⟩
 obtain ⟨b, hb⟩ : ∃ b, n / 256 % 16 = b := ⟨_, rfl⟩
 obtain ⟨c, hc⟩ : ∃ c, n / 16 % 16 = c := ⟨_, rfl⟩
 obtain ⟨d, hd⟩ : ∃ d, n % 16 = d := ⟨_, rfl⟩
 have r1 : ((n / 4096 : Nat) : Int).tmod 16 = (a : Int) := by rw [Int.tmod_eq_emod_of_nonneg (by omega)]; omega
 have r2 : ((n / 256 : Nat) : Int).tmod 16 = (b : Int) := by rw [Int.tmod_eq_emod_of_nonneg (by omega)]; omega
 have r3 : ((n / 16 : Nat) : Int).tmod 16 = (c : Int) := by rw [Int.tmod_eq_emod_of_nonneg (by omega)]; omega
 have r4 : (n : Int).tmod 16 = (d : Int) := by rw [Int.tmod_eq_emod_of_nonneg (by omega)]; omega
 have HF : Hid (fourL n = [dg a, dg b, dg c, dg d]) := Lib.hid (by unfold fourL; rw [ha, hb, hc, hd])
 have ba : (0 : Int) ≤ (a : Int) ∧ (a : Int) < 16 := by omega
 have bb : (0 : Int) ≤ (b : Int) ∧ (b : Int) < 16 := by omega
 have bc : (0 : Int) ≤ (c : Int) ∧ (c : Int) < 16 := by omega
 have bd : (0 : Int) ≤ (d : Int) ∧ (d : Int) < 16 := by omega
 generalize n / 4096 = n1 at *
 generalize n / 256 = n2 at *
 generalize n / 16 = n3 at *
 clear ha hb hc hd hn
 go_enter Tryz.func73, Tryz.ntmps73
 go_wp2_with fail
 refine wp_region_still_tail 19 (by kernel_rfl) (by kernel_rfl) ?_
 simp only [List.take_succ_cons, List.take_zero, List.drop_succ_cons, List.drop_zero]
 repeat still_step
 refine wpStill_nil ?_
 change wpList _ _ _ _ _ w.drew
 obtain ⟨w2, hw2⟩ : ∃ w2, w.drew = w2 := ⟨_, rfl⟩
 have hb2 : Below w.heap.size w w2 := by rw [← hw2]; exact (Below.refl _ _).drew
 rw [hw2]
 have hsz : w.heap.size ≤ w2.heap.size := hb2.size
 clear hw2
 rw [dgr a (by omega), dgr b (by omega), dgr c (by omega), dgr d (by omega)]
 have hcv := conv_bytes (w2.alloc (.cells #[.int .u8 (dg a), .int .u8 (dg b), .int .u8 (dg c), .int .u8 (dg d)] 5)) w2.heap.size 0 4 [dg a, dg b, dg c, dg d] (by
  intro i v hv
  rcases i with _|_|_|_|i
  ·simp at hv; subst hv; go_simp
  ·simp at hv; subst hv; go_simp
  ·simp at hv; subst hv; go_simp
  ·simp at hv; subst hv; go_simp
  ·simp at hv)
 rw [show [dg a, dg b, dg c, dg d].length = 4 from rfl] at hcv
 go_wp2_with fail
 go_ret
 exact ⟨ret_str (by rw [HF.out]), hb2.alloc hsz _⟩
theorem rtext (p : Int × Int) (hp : Ok p) (w : World) :
  Calls Tryz.prog 31 #[.agg #[.int .i64 p.1, .int .i64 p.2]] w fun e w' => e = .returned (.string (strN (textL p))) ∧ Below w.heap.size w w' := by
 obtain ⟨a, b, rfl, ha, hb⟩ := ok_nat hp
 have hT : textL ((a : Int), (b : Int)) = fourL a ++ fourL b := rfl
 rw [hT]
 clear hT hp
 have hn := At.new w (a : Int) (b : Int) 54
 have HB : Hid (Below w.heap.size w (w.alloc (.cells #[.int .i64 a, .int .i64 b] 54))) := Lib.hid ((Below.refl _ _).alloc (Nat.le_refl _) _)
 go_enter Tryz.func31, Tryz.ntmps31
 go_wp2_with fail
 generalize w.alloc (.cells #[.int .i64 (a : Int), .int .i64 (b : Int)] 54) = W at *
 have HN := Lib.hid hn
 obtain ⟨⟨f0, f1⟩, _, _⟩ := hn
 have hm1 : ((strN (fourL a)).size : Int) = 4 := by rw [strN_size]; rfl
 have hm2 : ((strN (fourL b)).size : Int) = 4 := by rw [strN_size]; rfl
 go_region_with (first
  | (go_at_call_of 73 (Value.int .i64 (a : Int)); refine (rfour a (by omega) _).mono ?_; rintro e w1 ⟨rfl, hb1⟩; have hn1 := HN.out.drew.below hb1; have HN1 := Lib.hid hn1; obtain ⟨⟨g0, g1⟩, _, _⟩ := hn1)
  | (go_at_call_of 73 (Value.int .i64 (b : Int)); refine (rfour b (by omega) _).mono ?_; rintro e w2 ⟨rfl, hb2⟩))
 all_goals
  go_wp2_with fail
  go_ret
  exact ⟨ret_str (strN_append _ _), (HB.out.drew.trans (hb1.mono HB.out.size)).trans (hb2.mono (Nat.le_trans HB.out.size hb1.size))⟩
end Go.Proofs.YtoealjcjpjapkaaGreatDoor
namespace Go.Proofs.YtoealjcjpjapkaaGreatDoor
open Go.RowKit Go.Proofs.Flo Go.Proofs.Cpl
theorem IsText.one {t : ByteArray} {p q : Int × Int} (h1 : IsText t p) (h2 : IsText t q) : p = q := by
 obtain ⟨ho1, e1⟩ := h1
 obtain ⟨ho2, e2⟩ := h2
 obtain ⟨a, b, rfl, ha, hb⟩ := ok_nat ho1
 obtain ⟨c, d, rfl, hc, hd⟩ := ok_nat ho2
 have h1 := hexP_text a b (by omega) (by omega)
 have h2 := hexP_text c d (by omega) (by omega)
 have e : strN (fourL a ++ fourL b) = strN (fourL c ++ fourL d) := by rw [e1] at e2; exact e2
 rw [e, h2] at h1
 have h3 := Option.some.inj h1
 have : c = a ∧ d = b := by omega
 rw [this.1, this.2]
end Go.Proofs.YtoealjcjpjapkaaGreatDoor
namespace Go.Proofs.YtoealjcjpjapkaaGreatDoor
open Go.RowKit Go.Proofs.Flo Go.Proofs.Cpl
theorem hexl_dg (d : Nat) (h : d < 16) : hexl (UInt8.ofNat (dg d).toNat) = some d := by
 rcases d with _|_|_|_|_|_|_|_|_|_|_|_|_|_|_|_|d
 all_goals first | (exfalso; omega) | rfl
theorem hexl_inv {c : UInt8} {d : Nat} (h : hexl c = some d) : d < 16 ∧ c = UInt8.ofNat (dg d).toNat := by
 unfold hexl at h
 split at h
 ·cases h
  refine ⟨by omega, ?_⟩
  apply UInt8.toNat_inj.1
  unfold dg
  rw [if_pos (by omega)]
  rw [UInt8.toNat_ofNat']
  omega
 ·split at h
  ·cases h
   refine ⟨by omega, ?_⟩
   apply UInt8.toNat_inj.1
   unfold dg
   rw [if_neg (by omega)]
   rw [UInt8.toNat_ofNat']
   omega
  ·cases h
theorem rr_text (a b : Nat) (ha : a < 65536) (hb : b < 65536) : rr 0 0 0 (strN (fourL a ++ fourL b)).data.toList = some (a, b) := by
 have e : (strN (fourL a ++ fourL b)).data.toList = (fourL a ++ fourL b).map fun x => UInt8.ofNat x.toNat := rfl
 rw [e]
 unfold fourL
 simp only [List.cons_append, List.nil_append, List.map_cons, List.map_nil, rr]
 rw [hexl_dg _ (by omega), hexl_dg _ (by omega), hexl_dg _ (by omega), hexl_dg _ (by omega), hexl_dg _ (by omega), hexl_dg _ (by omega), hexl_dg _ (by omega), hexl_dg _ (by omega)]
 simp
 omega
theorem rr_cons {k a b : Nat} {c : UInt8} {l : List UInt8} {r : Nat × Nat} (h : rr k a b (c :: l) = some r) : ∃ d, d < 16 ∧ c = UInt8.ofNat (dg d).toNat ∧ (if k < 4 then rr (k + 1) (a * 16 + d) b l else rr (k + 1) a (b * 16 + d) l) = some r := by
 unfold rr at h
 cases hc : hexl c with
 | none => rw [hc] at h; cases h
 | some d =>
  rw [hc] at h
  obtain ⟨h1, h2⟩ := hexl_inv hc
  exact ⟨d, h1, h2, h⟩
theorem rr_inv {t : ByteArray} (h8 : t.size = 8) {a b : Nat} (h : rr 0 0 0 t.data.toList = some (a, b)) : a < 65536 ∧ b < 65536 ∧ t = strN (fourL a ++ fourL b) := by
 have hl : t.data.toList.length = 8 := h8
 have ht : t = ⟨t.data.toList.toArray⟩ := by cases t; simp
 generalize t.data.toList = l at *
 obtain ⟨c0, l, rfl⟩ : ∃ c l', l = c :: l' := by cases l with | nil => cases hl | cons c l => exact ⟨c, l, rfl⟩
 obtain ⟨c1, l, rfl⟩ : ∃ c l', l = c :: l' := by cases l with | nil => cases hl | cons c l => exact ⟨c, l, rfl⟩
 obtain ⟨c2, l, rfl⟩ : ∃ c l', l = c :: l' := by cases l with | nil => cases hl | cons c l => exact ⟨c, l, rfl⟩
 obtain ⟨c3, l, rfl⟩ : ∃ c l', l = c :: l' := by cases l with | nil => cases hl | cons c l => exact ⟨c, l, rfl⟩
 obtain ⟨c4, l, rfl⟩ : ∃ c l', l = c :: l' := by cases l with | nil => cases hl | cons c l => exact ⟨c, l, rfl⟩
 obtain ⟨c5, l, rfl⟩ : ∃ c l', l = c :: l' := by cases l with | nil => cases hl | cons c l => exact ⟨c, l, rfl⟩
 obtain ⟨c6, l, rfl⟩ : ∃ c l', l = c :: l' := by cases l with | nil => cases hl | cons c l => exact ⟨c, l, rfl⟩
 obtain ⟨c7, l, rfl⟩ : ∃ c l', l = c :: l' := by cases l with | nil => cases hl | cons c l => exact ⟨c, l, rfl⟩
 obtain rfl : l = [] := by cases l with | nil => rfl | cons c l => simp at hl
 obtain ⟨d0, i0, rfl, g0⟩ := rr_cons h
 rw [if_pos (by decide)] at g0
 obtain ⟨d1, i1, rfl, g1⟩ := rr_cons g0
 rw [if_pos (by decide)] at g1
 obtain ⟨d2, i2, rfl, g2⟩ := rr_cons g1
 rw [if_pos (by decide)] at g2
 obtain ⟨d3, i3, rfl, g3⟩ := rr_cons g2
 rw [if_pos (by decide)] at g3
 obtain ⟨d4, i4, rfl, g4⟩ := rr_cons g3
 rw [if_neg (by decide)] at g4
 obtain ⟨d5, i5, rfl, g5⟩ := rr_cons g4
 rw [if_neg (by decide)] at g5
 obtain ⟨d6, i6, rfl, g6⟩ := rr_cons g5
 rw [if_neg (by decide)] at g6
 obtain ⟨d7, i7, rfl, g7⟩ := rr_cons g6
 rw [if_neg (by decide)] at g7
 have hab := Option.some.inj g7
 have ha : (((0 * 16 + d0) * 16 + d1) * 16 + d2) * 16 + d3 = a := (Prod.mk.inj hab).1
 have hb : (((0 * 16 + d4) * 16 + d5) * 16 + d6) * 16 + d7 = b := (Prod.mk.inj hab).2
 refine ⟨by omega, by omega, ?_⟩
 rw [ht]
 have e0 : a / 4096 % 16 = d0 := by omega
 have e1 : a / 256 % 16 = d1 := by omega
 have e2 : a / 16 % 16 = d2 := by omega
 have e3 : a % 16 = d3 := by omega
 have e4 : b / 4096 % 16 = d4 := by omega
 have e5 : b / 256 % 16 = d5 := by omega
 have e6 : b / 16 % 16 = d6 := by omega
 have e7 : b % 16 = d7 := by omega
 unfold fourL
 rw [e0, e1, e2, e3, e4, e5, e6, e7]
 rfl
theorem At.set0 {w : World} {b : Nat} {p : Int × Int} (h : At w b p) (x : Int) : At (w.setCell ⟨b, 0, none⟩ (.int .i64 x)) b (x, p.2) := by
 obtain ⟨⟨c0, c1⟩, ⟨z0, z1⟩, hs⟩ := h
 refine ⟨⟨?_, ?_⟩, ⟨?_, ?_⟩, ?_⟩
 ·go_simp
 ·go_simp
 ·go_simp
 ·go_simp
 ·simpa using hs
theorem At.set1 {w : World} {b : Nat} {p : Int × Int} (h : At w b p) (x : Int) : At (w.setCell ⟨b, 1, none⟩ (.int .i64 x)) b (p.1, x) := by
 obtain ⟨⟨c0, c1⟩, ⟨z0, z1⟩, hs⟩ := h
 refine ⟨⟨?_, ?_⟩, ⟨?_, ?_⟩, ?_⟩
 ·go_simp
 ·go_simp
 ·go_simp
 ·go_simp
 ·simpa using hs
theorem At.past {w : World} {b c i : Nat} {p : Int × Int} (h : At w b p) (hc : b ≠ c) (x : Value) : At (w.setCell ⟨c, i, none⟩ x) b p := by
 obtain ⟨⟨c0, c1⟩, ⟨z0, z1⟩, hs⟩ := h
 have hne : ∀ i j, (⟨c, i, none⟩ : Addr) ≠ ⟨b, j, none⟩ := fun i j e => hc (Addr.mk.inj e).1.symm
 refine ⟨⟨?_, ?_⟩, ⟨?_, ?_⟩, ?_⟩
 ·go_simp
 ·go_simp
 ·go_simp
 ·go_simp
 ·simpa using hs
theorem rr_is {t : ByteArray} (h8 : t.size = 8) {a b : Nat} (h : rr 0 0 0 t.data.toList = some (a, b)) (ha : a < 65521) (hb : b < 65521) : IsText t ((a : Int), (b : Int)) := by
 obtain ⟨_, _, e⟩ := rr_inv h8 h
 exact ⟨⟨⟨by omega, by omega⟩, ⟨by omega, by omega⟩⟩, e⟩
theorem is_rr {t : ByteArray} {p : Int × Int} (h : IsText t p) : t.size = 8 ∧ ∃ a b : Nat, p = ((a : Int), (b : Int)) ∧ a < 65521 ∧ b < 65521 ∧ rr 0 0 0 t.data.toList = some (a, b) := by
 obtain ⟨ho, rfl⟩ := h
 obtain ⟨a, b, rfl, ha, hb⟩ := ok_nat ho
 exact ⟨text_size _, a, b, rfl, by omega, by omega, rr_text a b (by omega) (by omega)⟩
def RrPost (t : ByteArray) (w : World) (e : Ending) (w' : World) : Prop :=
 ∃ (p : Int × Int) (ok : Bool), e = .returned (.tuple #[.agg #[.int .i64 p.1, .int .i64 p.2], .bool ok]) ∧ (∀ q, IsText t q → p = q ∧ ok = true) ∧ ((∀ q, ¬ IsText t q) → p = (0, 0) ∧ ok = false) ∧ Below w.heap.size w w'
theorem RrPost.no {t : ByteArray} {w w' : World} (h : ∀ q, ¬ IsText t q) (hb : Below w.heap.size w w') : RrPost t w (.returned (.tuple #[.agg #[.int .i64 0, .int .i64 0], .bool false])) w' :=
 ⟨(0, 0), false, rfl, fun q hq => absurd hq (h q), fun _ => ⟨rfl, rfl⟩, hb⟩
theorem RrPost.yes {t : ByteArray} {w w' : World} {p : Int × Int} (h : IsText t p) (hb : Below w.heap.size w w') : RrPost t w (.returned (.tuple #[.agg #[.int .i64 p.1, .int .i64 p.2], .bool true])) w' :=
 ⟨p, true, rfl, fun _ hq => ⟨h.one hq, rfl⟩, fun hn => absurd h (hn p), hb⟩
theorem rread (t : ByteArray) (w : World) :
  Calls Tryz.prog 59 #[.string t] w (RrPost t w) := by
 by_cases h8 : t.size = 8
 ·have h8' : (t.size : Int) = 8 := by omega
  obtain ⟨bs, hL⟩ : ∃ bs, bs = t.data.toList := ⟨_, rfl⟩
  have hLn : bs.length = t.size := by rw [hL, Lib.size_eq]
  have hget : ∀ k, (h : k < t.size) → t[k] = bs.getD k 0 := by
   intro k h
   subst hL
   simp [List.getD, List.getElem?_eq_getElem (show k < t.data.toList.length from h)]
   rfl
  have HL := Lib.hid hL
  clear hL
  go_enter Tryz.func59, Tryz.ntmps59
  go_wp2
  go_loopw [5] (fun i wr => ∃ k a b : Nat, k ≤ 8 ∧ i = .int .i64 k ∧ Hid (a < 16 ^ k ∧ b < 16 ^ k ∧ rr 0 0 0 bs = rr k a b (bs.drop k)) ∧ At wr w.heap.size (0, 0) ∧ At wr (w.heap.size + 1) ((a : Int), (b : Int)) ∧ Below w.heap.size w wr) (fun i _ => 8 - (intOf i).toNat)
  case atStart =>
   refine ⟨0, 0, 0, by omega, rfl, Lib.hid ⟨by decide, by decide, rfl⟩, ?_, ?_, ?_⟩
   ·exact (At.new w 0 0 _).alloc _
   ·have h := At.new (w.alloc (.cells #[.int .i64 0, .int .i64 0] 54)) 0 0 141
    simpa using h
   ·exact ((Below.refl _ _).alloc (Nat.le_refl _) _).alloc (by simp) _
  case round =>
   obtain ⟨k, a, b, hk, rfl, hh, hr, hz, hB⟩ := hrel
   by_cases hlt : k < 8
   ·obtain ⟨ha, hb, hdec⟩ := hh.out
    clear hh
    have hlt' : (k : Int) < (8 : Int) := by omega
    have hdrop : bs.drop k = bs[k]'(by omega) :: bs.drop (k + 1) := List.drop_eq_getElem_cons (by omega)
    have hgetk : bs.getD k 0 = bs[k]'(by omega) := by simp [List.getD, List.getElem?_eq_getElem (show k < bs.length by omega)]
    have hg := hget k (by omega)
    rw [hgetk] at hg
    rw [hdrop] at hdec
    generalize bs[k]'(by omega) = c at hg hdec
    have hp := pow16 k (by omega)
    have ha28 : a < 268435456 := by omega
    have hb28 : b < 268435456 := by omega
    have hc256 : c.toNat < 256 := c.toNat_lt
    have HR := Lib.hid hr
    have HZ := Lib.hid hz
    obtain ⟨⟨c0, c1⟩, ⟨z0, z1⟩, _⟩ := hz
    clear hr hp hgetk hdrop
    have q1 : IntKind.i64.wrap (c.toNat : Int) = (c.toNat : Int) := IntWalk.i64_in _ (by omega)
    have step : ∀ d : Nat, hexl c = some d → d < 16 → Hid ((if k < 4 then a * 16 + d else a) < 16 ^ (k + 1) ∧ (if k < 4 then b else b * 16 + d) < 16 ^ (k + 1) ∧ rr 0 0 0 bs = rr (k + 1) (if k < 4 then a * 16 + d else a) (if k < 4 then b else b * 16 + d) (bs.drop (k + 1))) := by
     intro d hd hd16
     have ps : (16 : Nat) ^ (k + 1) = 16 ^ k * 16 := Nat.pow_succ ..
     rw [ps]
     refine Lib.hid ⟨?_, ?_, ?_⟩
     ·split <;> omega
     ·split <;> omega
     ·rw [hdec]
      show (hexl c).bind _ = _
      rw [hd]
      simp only [Option.bind_some]
      by_cases h4 : k < 4
      ·simp only [if_pos h4]
      ·simp only [if_neg h4]
    by_cases h4 : k < 4
    ·have hk4 : (k : Int) / 4 = 0 := by omega
     simp only [if_pos h4] at step
     by_cases hdig : 48 ≤ c.toNat ∧ c.toNat ≤ 57
     ·obtain ⟨hd0, hd1⟩ := hdig
      have HN := step (c.toNat - 48) (by unfold hexl; rw [if_pos ⟨hd0, hd1⟩]) (by omega)
      have HE : Hid (((a * 16 + (c.toNat - 48) : Nat) : Int) = (a : Int) * 16 + ((c.toNat : Int) - 48)) := Lib.hid (by omega)
      clear step hdec ha hb hget
      go_wp2
      go_roundw
      case rel =>
       refine ⟨k + 1, _, _, by omega, by go_num, HN, ?_, ?_, ?_⟩
       ·exact HR.out.past (by omega) _
       ·rw [HE.out]
        exact HZ.out.set0 _
       ·exact hB.setCell (by simp) _
      case measure => simp [intOf]; omega
     ·by_cases hlow : 97 ≤ c.toNat ∧ c.toNat ≤ 102
      ·obtain ⟨hd0, hd1⟩ := hlow
       have HN := step (c.toNat - 87) (by unfold hexl; rw [if_neg hdig, if_pos ⟨hd0, hd1⟩]) (by omega)
       have HE : Hid (((a * 16 + (c.toNat - 87) : Nat) : Int) = (a : Int) * 16 + ((c.toNat : Int) - 87)) := Lib.hid (by omega)
       have hd' : ¬ (c.toNat : Int) ≤ 57 := by omega
       clear step hdec ha hb hget hdig
       go_wp2
       go_roundw
       case rel =>
        refine ⟨k + 1, _, _, by omega, by go_num, HN, ?_, ?_, ?_⟩
        ·exact HR.out.past (by omega) _
        ·rw [HE.out]
         exact HZ.out.set0 _
        ·exact hB.setCell (by simp) _
       case measure => simp [intOf]; omega
      ·have hno : ∀ q, ¬ IsText t q := by
        intro q h
        obtain ⟨_, a', b', _, _, _, hr'⟩ := is_rr h
        rw [← HL.out, hdec] at hr'
        have : rr k a b (c :: bs.drop (k + 1)) = none := by
         show (hexl c).bind _ = _
         unfold hexl
         rw [if_neg hdig, if_neg hlow]; rfl
        rw [this] at hr'
        cases hr'
       have HNO := Lib.hid hno
       have hn : ¬ (48 ≤ (c.toNat : Int) ∧ (c.toNat : Int) ≤ 57) := by omega
       have hn2 : ¬ (97 ≤ (c.toNat : Int) ∧ (c.toNat : Int) ≤ 102) := by omega
       have hd := HR.out.set (q := (0, 0))
       obtain ⟨⟨e0, e1⟩, ⟨x0, x1⟩, _⟩ := HR.out
       clear step hdec ha hb hget hno hdig hlow
       have HD := Lib.hid hd
       clear hd
       go_wp2
       all_goals
        obtain ⟨⟨d0, d1⟩, _, _⟩ := HD.out
        exact bodyPost_ret (v := .tuple #[.agg #[.int .i64 0, .int .i64 0], .bool false]) (by simp [results, Tryz.results59, go_sem, d0, d1]) rfl
         (RrPost.no HNO.out ((hB.setCell (by simp) _).setCell (by simp) _))
    ·have hk4 : (k : Int) / 4 = 1 := by omega
     simp only [if_neg h4] at step
     by_cases hdig : 48 ≤ c.toNat ∧ c.toNat ≤ 57
     ·obtain ⟨hd0, hd1⟩ := hdig
      have HN := step (c.toNat - 48) (by unfold hexl; rw [if_pos ⟨hd0, hd1⟩]) (by omega)
      have HE : Hid (((b * 16 + (c.toNat - 48) : Nat) : Int) = (b : Int) * 16 + ((c.toNat : Int) - 48)) := Lib.hid (by omega)
      clear step hdec ha hb hget
      go_wp2
      go_roundw
      case rel =>
       refine ⟨k + 1, _, _, by omega, by go_num, HN, ?_, ?_, ?_⟩
       ·exact HR.out.past (by omega) _
       ·rw [HE.out]
        exact HZ.out.set1 _
       ·exact hB.setCell (by simp) _
      case measure => simp [intOf]; omega
     ·by_cases hlow : 97 ≤ c.toNat ∧ c.toNat ≤ 102
      ·obtain ⟨hd0, hd1⟩ := hlow
       have HN := step (c.toNat - 87) (by unfold hexl; rw [if_neg hdig, if_pos ⟨hd0, hd1⟩]) (by omega)
       have HE : Hid (((b * 16 + (c.toNat - 87) : Nat) : Int) = (b : Int) * 16 + ((c.toNat : Int) - 87)) := Lib.hid (by omega)
       have hd' : ¬ (c.toNat : Int) ≤ 57 := by omega
       clear step hdec ha hb hget hdig
       go_wp2
       go_roundw
       case rel =>
        refine ⟨k + 1, _, _, by omega, by go_num, HN, ?_, ?_, ?_⟩
        ·exact HR.out.past (by omega) _
        ·rw [HE.out]
         exact HZ.out.set1 _
        ·exact hB.setCell (by simp) _
       case measure => simp [intOf]; omega
      ·have hno : ∀ q, ¬ IsText t q := by
        intro q h
        obtain ⟨_, a', b', _, _, _, hr'⟩ := is_rr h
        rw [← HL.out, hdec] at hr'
        have : rr k a b (c :: bs.drop (k + 1)) = none := by
         show (hexl c).bind _ = _
         unfold hexl
         rw [if_neg hdig, if_neg hlow]; rfl
        rw [this] at hr'
        cases hr'
       have HNO := Lib.hid hno
       have hn : ¬ (48 ≤ (c.toNat : Int) ∧ (c.toNat : Int) ≤ 57) := by omega
       have hn2 : ¬ (97 ≤ (c.toNat : Int) ∧ (c.toNat : Int) ≤ 102) := by omega
       have hd := HR.out.set (q := (0, 0))
       obtain ⟨⟨e0, e1⟩, ⟨x0, x1⟩, _⟩ := HR.out
       clear step hdec ha hb hget hno hdig hlow
       have HD := Lib.hid hd
       clear hd
       go_wp2
       all_goals
        obtain ⟨⟨d0, d1⟩, _, _⟩ := HD.out
        exact bodyPost_ret (v := .tuple #[.agg #[.int .i64 0, .int .i64 0], .bool false]) (by simp [results, Tryz.results59, go_sem, d0, d1]) rfl
         (RrPost.no HNO.out ((hB.setCell (by simp) _).setCell (by simp) _))
   ·have hk8 : k = 8 := by omega
    subst hk8
    obtain ⟨ha, hb, hdec⟩ := hh.out
    rw [List.drop_eq_nil_of_le (by omega)] at hdec
    rw [show rr 8 a b [] = some (a, b) from rfl] at hdec
    clear hh hget
    have ha28 : a < 4294967296 := ha
    have hb28 : b < 4294967296 := hb
    obtain ⟨⟨c0, c1⟩, ⟨z0, z1⟩, _⟩ := hz
    have HR := Lib.hid hr
    obtain ⟨⟨e0, e1⟩, ⟨x0, x1⟩, _⟩ := hr
    clear ha hb ha28 hb28
    by_cases h1 : a < 65521
    ·by_cases h2 : b < 65521
     ·have his := rr_is h8 (by rw [← HL.out]; exact hdec) h1 h2
      have HI := Lib.hid his
      have HD := Lib.hid (HR.out.set (q := ((a : Int), (b : Int))))
      have i1 : (a : Int) < 65521 := by omega
      have i2 : (b : Int) < 65521 := by omega
      have j1 : ¬ (65521 : Int) ≤ (a : Int) := by omega
      have j2 : ¬ (65521 : Int) ≤ (b : Int) := by omega
      clear hdec his h1 h2 hLn hk hlt i1 i2
      go_wp2
      obtain ⟨⟨d0, d1⟩, _, _⟩ := HD.out
      exact bodyPost_ret (v := .tuple #[.agg #[.int .i64 a, .int .i64 b], .bool true]) (by simp [results, Tryz.results59, go_sem, d0, d1]) rfl
       (RrPost.yes HI.out ((hB.setCell (by simp) _).setCell (by simp) _))
     ·have hno : ∀ q, ¬ IsText t q := by
       intro q h
       obtain ⟨_, a', b', _, _, hb', hr'⟩ := is_rr h
       rw [← HL.out, hdec] at hr'
       have := Prod.mk.inj (Option.some.inj hr')
       omega
      have HNO := Lib.hid hno
      have HD := Lib.hid (HR.out.set (q := (0, 0)))
      have i1 : (a : Int) < 65521 := by omega
      have i2 : (65521 : Int) ≤ (b : Int) := by omega
      clear hdec hno h1 h2 hLn hk hlt
      go_wp2
      obtain ⟨⟨d0, d1⟩, _, _⟩ := HD.out
      exact bodyPost_ret (v := .tuple #[.agg #[.int .i64 0, .int .i64 0], .bool false]) (by simp [results, Tryz.results59, go_sem, d0, d1]) rfl
       (RrPost.no HNO.out ((hB.setCell (by simp) _).setCell (by simp) _))
    ·have hno : ∀ q, ¬ IsText t q := by
      intro q h
      obtain ⟨_, a', b', _, ha', _, hr'⟩ := is_rr h
      rw [← HL.out, hdec] at hr'
      have := Prod.mk.inj (Option.some.inj hr')
      omega
     have HNO := Lib.hid hno
     have HD := Lib.hid (HR.out.set (q := (0, 0)))
     have i1 : (65521 : Int) ≤ (a : Int) := by omega
     clear hdec hno h1 hLn hk hlt
     go_wp2
     obtain ⟨⟨d0, d1⟩, _, _⟩ := HD.out
     exact bodyPost_ret (v := .tuple #[.agg #[.int .i64 0, .int .i64 0], .bool false]) (by simp [results, Tryz.results59, go_sem, d0, d1]) rfl
      (RrPost.no HNO.out ((hB.setCell (by simp) _).setCell (by simp) _))
 ·have h8' : ((t.size : Int) == 8) = false := by rw [beq_eq_false_iff_ne]; omega
  have hno : ∀ q, ¬ IsText t q := fun q h => h8 (is_rr h).1
  go_enter Tryz.func59, Tryz.ntmps59
  go_wp2
  exact bodyPost_ret (v := .tuple #[.agg #[.int .i64 0, .int .i64 0], .bool false]) (by simp [results, Tryz.results59, go_sem]) rfl
   (RrPost.no hno ((Below.refl _ _).alloc (Nat.le_refl _) _))
end Go.Proofs.YtoealjcjpjapkaaGreatDoor
namespace Go.Proofs.YtoealjcjpjapkaaGreatDoor
open Go.RowKit Go.Proofs.Flo Go.Proofs.Cpl Go.Sort
def cutS (s : ByteArray) (n : Nat) : ByteArray := s.extract 0 (min s.size n)
theorem cutS_size (s : ByteArray) (n : Nat) : (cutS s n).size ≤ n := by
 unfold cutS
 rw [ByteArray.size_extract]
 omega
theorem cut_any (s : ByteArray) (n : Nat) (w : World) :
  Calls Tryz.prog 11 #[.string s, .int .i64 n] w fun e w' => e = .returned (.string (cutS s n)) ∧ w = w' := by
 have hb0 : (0 : Int) ≤ min (s.size : Int) (n : Int) := by omega
 have hb1 : min (s.size : Int) (n : Int) ≤ (s.size : Int) := by omega
 have hm : (min (s.size : Int) (n : Int)).toNat = min s.size n := by omega
 go_enter Tryz.func11, Tryz.ntmps11
 go_wp2
 go_ret
 exact ⟨rfl, rfl⟩
theorem rmark_str (s : ByteArray) (G : Int × Int) (hG : gon (0, 1) s.data.toList = G) (hs : s.size ≤ maxLen) (w : World) :
  Calls Tryz.prog 62 #[.string s] w fun e w' => e = .returned (.agg #[.int .i64 G.1, .int .i64 G.2]) ∧ Below w.heap.size w w' := by
 subst hG
 exact rmark_any s hs w
theorem bytesWorld_free (w : World) (e : TypeId) (s : ByteArray) (k : Nat) (h : k < s.size) : (Lib.bytesWorld w e s).frozen? ⟨w.heap.size, k, none⟩ = false := by
 unfold World.frozen?
 rw [Lib.bytesWorld_at_new]
 have hs : s.size ≤ (Lib.bytesCells w e s).size := by
  unfold Lib.bytesCells
  rw [Array.size_append, Array.size_map]
  exact Nat.le_add_right _ _
 simp only
 have : ¬ (Lib.bytesCells w e s).size ≤ k := by omega
 simp [this]
theorem BytesAt.set {w : World} {b : Nat} {l : List UInt8} (h : BytesAt w b 0 l) (k : Nat) (hk : k < l.length) (c : UInt8) : BytesAt (w.setCell ⟨b, k, none⟩ (.int .u8 (c.toNat : Int))) b 0 (l.set k c) := by
 intro i hi
 rw [List.length_set] at hi
 have hc := h i hi
 have hck := h k hk
 rw [Nat.zero_add] at hc hck ⊢
 by_cases e : i = k
 ·subst e
  rw [List.getElem_set_self]
  go_simp
 ·rw [List.getElem_set_ne (fun g => e g.symm)]
  go_simp
end Go.Proofs.YtoealjcjpjapkaaGreatDoor
namespace Go.Proofs.YtoealjcjpjapkaaGreatDoor
open Go.RowKit Go.Proofs.Flo Go.Proofs.Cpl Go.Sort
theorem rtag_p (s : ByteArray) (hs : s.size ≤ 1000000000) (w : World) :
  Calls Tryz.prog 21 #[.string s] w fun e w' => e = .returned (.string (tagS s)) ∧ Below w.heap.size w w' := by
 have H1 := Lib.hid (rmark_str s (gon (0, 1) s.data.toList) rfl (by unfold maxLen; omega) w)
 have hok := ok_gon ok_i s.data.toList
 unfold tagS
 generalize gon (0, 1) s.data.toList = G at *
 have H2 := Lib.hid (fun W => rtext G hok W)
 clear hok
 go_enter Tryz.func21, Tryz.ntmps21
 go_wp2_with fail
 refine H1.out.mono ?_
 rintro _ w1 ⟨rfl, hb1⟩
 have HB1 := Lib.hid hb1
 clear hb1
 go_wp2_with fail
 refine (H2.out _).mono ?_
 rintro _ w2 ⟨rfl, hb2⟩
 have HB2 := Lib.hid (HB1.out.trans (hb2.mono HB1.out.size))
 clear hb2
 go_wp2_with fail
 go_ret
 exact ⟨rfl, HB2.out⟩
end Go.Proofs.YtoealjcjpjapkaaGreatDoor
namespace Go.Proofs.YtoealjcjpjapkaaGreatDoor
open Go.RowKit
theorem De.parts_inj {d e : De} (h : d.parts = e.parts) : d = e := by
 obtain ⟨a1, a2, a3, a4, a5, a6, a7, a8⟩ := d
 obtain ⟨b1, b2, b3, b4, b5, b6, b7, b8⟩ := e
 simp only [De.parts, F.cons.injEq, true_and, and_true] at h
 obtain ⟨rfl, rfl, rfl, rfl, rfl, rfl, rfl, rfl⟩ := h
 rfl
end Go.Proofs.YtoealjcjpjapkaaGreatDoor
namespace Go.Proofs.YtoealjcjpjapkaaGreatDoor
open Go.RowKit
theorem DeW.new (w : World) (d : De) (t : TypeId) : DeW (w.alloc (.cells #[.int .i64 d.kind, .string d.key, .string d.body, .int .i64 d.ver, .int .i64 d.cond, .string d.tag, .int .i64 d.req, .int .i64 d.low] t)) w.heap.size := by
 refine ⟨?_, ?_, ?_, ?_, ?_, ?_, ?_, ?_⟩ <;> go_simp
end Go.Proofs.YtoealjcjpjapkaaGreatDoor
