/-
 Contracts of the program, and what they rest on.
-/
import Derived.Test.YtoealjcjpjapkaaGreatDoorTk
import Derived.Test.YtoealjcjpjapkaaGreatDoorM07
import Derived.Lib.ParseIntBTie
set_option maxRecDepth 100000
set_option maxHeartbeats 16000000
namespace Go.Proofs.YtoealjcjpjapkaaGreatDoor
open Go.RowKit
def PartZ (q : Nat) (k n : Int) (s : ByteArray) (ad : Option Addr) (len cap : Nat) (b : Int) (w : World) : Prop :=
 w.cell? ⟨q, 0, none⟩ = some (.int .i64 k) ∧ w.cell? ⟨q, 1, none⟩ = some (.int .i64 n) ∧ w.cell? ⟨q, 2, none⟩ = some (.string s) ∧ w.cell? ⟨q, 3, none⟩ = some (.slice ad len cap) ∧ w.cell? ⟨q, 4, none⟩ = some (.int .i64 b)
theorem Get_any (t : ByteArray) (w : World) (P : Int → Int → ByteArray → Option Addr → Nat → Nat → Int → Int → World → Prop)
  (hP : ∀ k n s ad len cap b e w1 w2, P k n s ad len cap b e w1 → (∀ j, j ≠ w.heap.size → j < w1.heap.size → w2.heap[j]? = w1.heap[j]?) → P k n s ad len cap b e w2)
  (H : Calls Tryz.prog 159 #[.string t, .int .i64 6, .int .i64 6000] (w.alloc (.cells #[.int .i64 0, .int .i64 0, .string ⟨#[]⟩, .slice none 0 0] 35)) fun e w' => Below (w.alloc (.cells #[.int .i64 0, .int .i64 0, .string ⟨#[]⟩, .slice none 0 0] 35)).heap.size (w.alloc (.cells #[.int .i64 0, .int .i64 0, .string ⟨#[]⟩, .slice none 0 0] 35)) w' ∧ ∃ k n s ad len cap b c er, e = .returned (.tuple #[.agg #[.int .i64 k, .int .i64 n, .string s, .slice ad len cap, .int .i64 b, .int .i64 c], .int .i64 er]) ∧ P k n s ad len cap b er w') :
  Calls Tryz.prog 108 #[.string t] w fun e w' => Below w.heap.size w w' ∧ ∃ k n s ad len cap b er, e = .returned (.tuple #[.agg #[.int .i64 k, .int .i64 n, .string s, .slice ad len cap], .int .i64 b, .int .i64 er]) ∧ P k n s ad len cap b er w' := by
 have HB0 : Hid (Below w.heap.size w (w.alloc (.cells #[.int .i64 0, .int .i64 0, .string ⟨#[]⟩, .slice none 0 0] 35))) := Lib.hid ((Below.refl _ _).alloc (Nat.le_refl _) _)
 have H' := Lib.hid H
 have HP := Lib.hid hP
 clear H hP
 go_enter Tryz.func108, Tryz.ntmps108
 go_wp2_with fail
 refine H'.out.mono ?_
 rintro _ w2 ⟨hb2, k, n, s, ad, len, cap, b, c, er, rfl, hp⟩
 have HPP := Lib.hid hp
 have HB2 := Lib.hid (HB0.out.trans (hb2.mono HB0.out.size))
 have hlt : w.heap.size < w2.heap.size := by have := hb2.size; simp at this; omega
 have c0 : w2.cell? ⟨w.heap.size, 0, none⟩ = some (.int .i64 0) := by rw [hb2.cell (by simp)]; go_simp
 have z0 : w2.frozen? ⟨w.heap.size, 0, none⟩ = false := by rw [hb2.frozen (by simp)]; go_simp
 have c1 : w2.cell? ⟨w.heap.size, 1, none⟩ = some (.int .i64 0) := by rw [hb2.cell (by simp)]; go_simp
 have z1 : w2.frozen? ⟨w.heap.size, 1, none⟩ = false := by rw [hb2.frozen (by simp)]; go_simp
 have c2 : w2.cell? ⟨w.heap.size, 2, none⟩ = some (.string ⟨#[]⟩) := by rw [hb2.cell (by simp)]; go_simp
 have z2 : w2.frozen? ⟨w.heap.size, 2, none⟩ = false := by rw [hb2.frozen (by simp)]; go_simp
 have c3 : w2.cell? ⟨w.heap.size, 3, none⟩ = some (.slice none 0 0) := by rw [hb2.cell (by simp)]; go_simp
 have z3 : w2.frozen? ⟨w.heap.size, 3, none⟩ = false := by rw [hb2.frozen (by simp)]; go_simp
 clear hb2 hp
 go_wp2_with fail
 have hS : PartZ w2.heap.size k n s ad len cap b (World.drew (w2.alloc (.cells #[.int .i64 k, .int .i64 n, .string s, .slice ad len cap, .int .i64 b, .int .i64 c] 204))) := by
  refine ⟨?_, ?_, ?_, ?_, ?_⟩ <;> go_simp
 have hne : ¬ w2.heap.size = w.heap.size := by omega
 have hne' : ¬ w.heap.size = w2.heap.size := by omega
 refine wp_region_held (S := PartZ w2.heap.size k n s ad len cap b) (by kernel_rfl) ?_
 change wpAnyH _ _ _ _ _ _ _ _ (World.drew _)
 refine tk 0 (.pointer (some ⟨w2.heap.size, 0, none⟩)) rfl ?_ hS ?_
 ·intro w' ⟨s0, s1, s2, s3, s4⟩; go_simp
 refine tk 1 (.agg #[.int .i64 k, .int .i64 n, .string s, .slice ad len cap]) rfl ?_ hS ?_
 ·intro w' ⟨s0, s1, s2, s3, s4⟩; go_simp
 refine tk 2 (.pointer (some ⟨w2.heap.size, 4, none⟩)) rfl ?_ hS ?_
 ·intro w' ⟨s0, s1, s2, s3, s4⟩; go_simp
 refine tk 3 (.int .i64 b) rfl ?_ hS ?_
 ·intro w' ⟨s0, s1, s2, s3, s4⟩; go_simp
 refine tk 4 (.int .i64 er) rfl ?_ hS ?_
 ·intro w' ⟨s0, s1, s2, s3, s4⟩; go_simp
 refine wpAnyH_ready (rs := [5]) (by kernel_rfl) (by simp) ?_
 refine AllReadyH.cons rfl (fun K hK => ?_) AllReadyH.nil
 go_simp
 refine hK.out _ _ ?_ (fun hS1 => ?_)
 ·clear hS
  refine ⟨?_, ?_, ?_, ?_, ?_⟩ <;> go_simp
 clear hK hS
 refine wpAnyH_ready (rs := [6]) (by kernel_rfl) (by simp) ?_
 refine AllReadyH.cons rfl (fun K hK => ?_) AllReadyH.nil
 go_simp
 refine hK.out _ _ hS1 (fun _ => ?_)
 clear hK
 refine wpAnyH_ready (rs := [7]) (by kernel_rfl) (by simp) ?_
 refine AllReadyH.cons rfl (fun K hK => ?_) AllReadyH.nil
 go_simp
 refine hK.out _ _ hS1 (fun _ => ?_)
 clear hK
 refine wpAnyH_done (by kernel_rfl) ?_ _
 go_wp2_with fail
 have d0 : ((((((w2.setCell ⟨w.heap.size, 0, none⟩ (.int .i64 k)).setCell ⟨w.heap.size, 1, none⟩ (.int .i64 n)).setCell ⟨w.heap.size, 2, none⟩ (.string s)).setCell ⟨w.heap.size, 3, none⟩ (.slice ad len cap)).alloc (.cells #[.int .i64 k, .int .i64 n, .string s, .slice ad len cap, .int .i64 b, .int .i64 c] 204)).drew).cell? ⟨w.heap.size, 0, none⟩ = some (.int .i64 k) := by go_simp
 have d1 : ((((((w2.setCell ⟨w.heap.size, 0, none⟩ (.int .i64 k)).setCell ⟨w.heap.size, 1, none⟩ (.int .i64 n)).setCell ⟨w.heap.size, 2, none⟩ (.string s)).setCell ⟨w.heap.size, 3, none⟩ (.slice ad len cap)).alloc (.cells #[.int .i64 k, .int .i64 n, .string s, .slice ad len cap, .int .i64 b, .int .i64 c] 204)).drew).cell? ⟨w.heap.size, 1, none⟩ = some (.int .i64 n) := by go_simp
 have d2 : ((((((w2.setCell ⟨w.heap.size, 0, none⟩ (.int .i64 k)).setCell ⟨w.heap.size, 1, none⟩ (.int .i64 n)).setCell ⟨w.heap.size, 2, none⟩ (.string s)).setCell ⟨w.heap.size, 3, none⟩ (.slice ad len cap)).alloc (.cells #[.int .i64 k, .int .i64 n, .string s, .slice ad len cap, .int .i64 b, .int .i64 c] 204)).drew).cell? ⟨w.heap.size, 2, none⟩ = some (.string s) := by go_simp
 have d3 : ((((((w2.setCell ⟨w.heap.size, 0, none⟩ (.int .i64 k)).setCell ⟨w.heap.size, 1, none⟩ (.int .i64 n)).setCell ⟨w.heap.size, 2, none⟩ (.string s)).setCell ⟨w.heap.size, 3, none⟩ (.slice ad len cap)).alloc (.cells #[.int .i64 k, .int .i64 n, .string s, .slice ad len cap, .int .i64 b, .int .i64 c] 204)).drew).cell? ⟨w.heap.size, 3, none⟩ = some (.slice ad len cap) := by go_simp
 refine bodyPost_ret (v := .tuple #[.agg #[.int .i64 k, .int .i64 n, .string s, .slice ad len cap], .int .i64 b, .int .i64 er]) (by simp [results, Tryz.results108, go_sem, d0, d1, d2, d3]) rfl ⟨(((((HB2.out.setCell (by simp) _).setCell (by simp) _).setCell (by simp) _).setCell (by simp) _).alloc (by simp; omega) _).drew, k, n, s, ad, len, cap, b, er, rfl, ?_⟩
 refine HP.out _ _ _ _ _ _ _ _ _ _ HPP.out (fun j hj hl => ?_)
 rw [show (∀ (x : World), x.drew.heap = x.heap) from fun _ => rfl, heap_alloc_old _ _ (by simpa using hl)]
 rw [heap_setCell_other _ _ _ _ hj, heap_setCell_other _ _ _ _ hj, heap_setCell_other _ _ _ _ hj, heap_setCell_other _ _ _ _ hj]
def GetV (r : Except Nat G) (w : World) (e : Ending) (w' : World) : Prop :=
 Below w.heap.size w w' ∧
 match r with
 | .error x => e = .returned (.tuple #[.agg #[.int .i64 0, .int .i64 0, .string ⟨#[]⟩, .slice none 0 0], .int .i64 0, .int .i64 x])
 | .ok x => ∃ ad cap, e = .returned (.tuple #[.agg #[.int .i64 x.k, .int .i64 x.n, .string x.s, .slice ad x.l.len cap], .int .i64 x.b, .int .i64 0]) ∧ RepG w' (fun b => w.heap.size ≤ b) ad x.l
def getR (t : ByteArray) : Except Nat G := getP 6 t 6000
theorem Get_p (t : ByteArray) (w : World) (hs : t.size ≤ 9223372036854775807) (hlib : LibAt w) :
  Calls Tryz.prog 108 #[.string t] w (GetV (getR t) w) := by
 have hb0 : Below w.heap.size w (w.alloc (.cells #[.int .i64 0, .int .i64 0, .string ⟨#[]⟩, .slice none 0 0] 35)) := (Below.refl _ _).alloc (Nat.le_refl _) _
 have H := get_q 6 (by decide) t 6000 (w.alloc (.cells #[.int .i64 0, .int .i64 0, .string ⟨#[]⟩, .slice none 0 0] 35)) hs (by decide) (by decide) (hlib.below hb0)
 unfold getR
 generalize getP 6 t 6000 = r at *
 unfold GetPost at H
 cases r with
 | error e =>
  refine (Get_any t w (fun k n s ad len cap b er _ => k = 0 ∧ n = 0 ∧ s = ⟨#[]⟩ ∧ ad = none ∧ len = 0 ∧ cap = 0 ∧ b = 0 ∧ er = (e : Int)) (fun _ _ _ _ _ _ _ _ _ _ h _ => h) (H.mono fun x w' ⟨h1, h2⟩ => ⟨h1, 0, 0, ⟨#[]⟩, none, 0, 0, 0, 0, e, h2, rfl, rfl, rfl, rfl, rfl, rfl, rfl, rfl⟩)).mono ?_
  rintro x w' ⟨h1, k, n, s, ad, len, cap, b, er, rfl, rfl, rfl, rfl, rfl, rfl, rfl, rfl, rfl⟩
  exact ⟨h1, rfl⟩
 | ok x =>
  refine (Get_any t w (fun k n s ad len cap b er w' => k = x.k ∧ n = x.n ∧ s = x.s ∧ len = x.l.len ∧ b = (x.b : Int) ∧ er = 0 ∧ RepG w' (fun b => w.heap.size < b) ad x.l) (fun _ _ _ _ _ _ _ _ _ _ h hh => ?_) (H.mono fun y w' ⟨h1, ad, cap, h2, h3⟩ => ⟨h1, x.k, x.n, x.s, ad, x.l.len, cap, x.b, x.c, 0, h2, rfl, rfl, rfl, rfl, rfl, rfl, h3.to (fun b hb _ => ⟨by simp at hb; omega, rfl⟩)⟩)).mono ?_
  ·obtain ⟨h1, h2, h3, h4, h5, h6, h7⟩ := h
   exact ⟨h1, h2, h3, h4, h5, h6, h7.to (fun b hb hl => ⟨hb, hh b (by omega) hl⟩)⟩
  ·rintro y w' ⟨h1, k, n, s, ad, len, cap, b, er, rfl, rfl, rfl, rfl, rfl, rfl, rfl, hg⟩
   exact ⟨h1, ad, cap, rfl, hg.to (fun b hb _ => ⟨by omega, rfl⟩)⟩
theorem nd_le : ∀ (d u : Nat), 1 ≤ d → u < 10 ^ d → Lib.nDigits u ≤ d
 | 0, _, h, _ => by omega
 | d + 1, u, _, h => by
  by_cases h0 : u < 10
  ·rw [Lib.nDigits_small h0]; omega
  ·rw [Lib.nDigits_big h0]
   rw [Nat.pow_succ] at h
   by_cases hd : d = 0
   ·subst hd; simp at h; omega
   ·have := nd_le d (u / 10) (by omega) (by omega)
    omega
theorem dig_toNat (d : Nat) (h : d < 10) : (UInt8.ofNat (48 + d)).toNat = 48 + d := by
 simp only [UInt8.toNat_ofNat']
 omega
theorem lenP_dig (l : List UInt8) : ∀ (u : Nat), u < 10000000 → lenP 0 0 (Lib.decDigits u ++ l) = lenP u (Lib.nDigits u) l := by
 intro u
 induction u using Nat.strongRecOn generalizing l with
 | _ u ih =>
  intro hu
  by_cases h : u < 10
  ·rw [Lib.decDigits, dif_pos h, Lib.nDigits_small h]
   show lenP 0 0 (UInt8.ofNat (48 + u) :: l) = _
   have hd := dig_toNat u h
   rw [lenP, if_pos (by omega), if_neg (by omega), hd]
   congr 1
   omega
  ·rw [Lib.decDigits, dif_neg h, Lib.nDigits_big h, List.append_assoc, ih (u / 10) (by omega) _ (by omega)]
   show lenP (u / 10) (Lib.nDigits (u / 10)) (UInt8.ofNat (48 + u % 10) :: l) = _
   have hd := dig_toNat (u % 10) (by omega)
   have hn := nd_le 6 (u / 10) (by omega) (by omega)
   rw [lenP, if_pos (by omega), if_neg (by omega), hd]
   congr 1
   omega
theorem parse_dig (l : List UInt8) : ∀ (u : Nat), u < 18446744073709551616 → Lib.parseUint10 0 (Lib.decDigits u ++ l) = Lib.parseUint10 u l := by
 intro u
 induction u using Nat.strongRecOn generalizing l with
 | _ u ih =>
  intro hu
  by_cases h : u < 10
  ·rw [Lib.decDigits, dif_pos h]
   show Lib.parseUint10 0 (UInt8.ofNat (48 + u) :: l) = _
   have hd := dig_toNat u h
   rw [Lib.parseUint10, if_pos (by omega), if_neg (by omega), if_neg (by omega), hd]
   congr 1
   omega
  ·rw [Lib.decDigits, dif_neg h, List.append_assoc, ih (u / 10) (by omega) _ (by omega)]
   show Lib.parseUint10 (u / 10) (UInt8.ofNat (48 + u % 10) :: l) = _
   have hd := dig_toNat (u % 10) (by omega)
   rw [Lib.parseUint10, if_pos (by omega), if_neg (by omega), if_neg (by omega), hd]
   congr 1
   omega
theorem dig_all : ∀ (u : Nat), ∀ c ∈ Lib.decDigits u, 48 ≤ c.toNat ∧ c.toNat ≤ 57 := by
 intro u
 induction u using Nat.strongRecOn with
 | _ u ih =>
  intro c hc
  by_cases h : u < 10
  ·rw [Lib.decDigits, dif_pos h] at hc
   obtain rfl := List.mem_singleton.1 hc
   rw [dig_toNat u h]; omega
  ·rw [Lib.decDigits, dif_neg h] at hc
   rcases List.mem_append.1 hc with hc | hc
   ·exact ih (u / 10) (by omega) c hc
   ·obtain rfl := List.mem_singleton.1 hc
    rw [dig_toNat _ (by omega)]; omega
theorem dig_head : ∀ (u : Nat), ∃ c r, Lib.decDigits u = c :: r ∧ (1 ≤ u → 49 ≤ c.toNat) ∧ 48 ≤ c.toNat ∧ c.toNat ≤ 57 ∧ (u = 0 → c = 48 ∧ r = []) := by
 intro u
 induction u using Nat.strongRecOn with
 | _ u ih =>
  by_cases h : u < 10
  ·refine ⟨UInt8.ofNat (48 + u), [], by rw [Lib.decDigits, dif_pos h], ?_, ?_, ?_, ?_⟩
   ·intro h1; rw [dig_toNat u h]; omega
   ·rw [dig_toNat u h]; omega
   ·rw [dig_toNat u h]; omega
   ·rintro rfl; exact ⟨rfl, rfl⟩
  ·obtain ⟨c, r, h1, h2, h3, h4, _⟩ := ih (u / 10) (by omega)
   refine ⟨c, r ++ [UInt8.ofNat (48 + u % 10)], by rw [Lib.decDigits, dif_neg h, h1]; rfl, fun _ => h2 (by omega), h3, h4, fun h0 => by omega⟩
theorem itoa_form (v : Int) : (∃ u : Nat, v = u ∧ Lib.itoa v = Lib.decDigits u) ∨ (∃ u : Nat, 1 ≤ u ∧ v = -(u : Int) ∧ Lib.itoa v = 45 :: Lib.decDigits u) := by
 by_cases h : v < 0
 ·refine .inr ⟨v.natAbs, by omega, by omega, ?_⟩
  unfold Lib.itoa; rw [if_pos h]
 ·refine .inl ⟨v.toNat, by omega, ?_⟩
  unfold Lib.itoa; rw [if_neg h]
theorem atoi_itoa (v : Int) (h0 : -9223372036854775808 ≤ v) (h1 : v ≤ 9223372036854775807) : Lib.atoiAll (Lib.itoa v) = .ok v := by
 rcases itoa_form v with ⟨u, rfl, hu⟩ | ⟨u, h, rfl, hu⟩
 ·rw [hu]
  obtain ⟨c, r, hc, _, hc1, hc2, _⟩ := dig_head u
  have hp : Lib.parseMag (Lib.decDigits u) = .ok u := by
   unfold Lib.parseMag
   rw [if_neg (by rw [hc]; simp)]
   have := parse_dig [] u (by omega)
   rw [List.append_nil] at this
   rw [this]; rfl
  rw [hc] at hp ⊢
  unfold Lib.atoiAll
  simp only
  rw [if_neg (by omega), hp]
  simp only
  rw [if_neg (by omega), if_neg (by omega), if_neg (by omega)]
 ·rw [hu]
  obtain ⟨c, r, hc, _, hc1, hc2, _⟩ := dig_head u
  have hp : Lib.parseMag (Lib.decDigits u) = .ok u := by
   unfold Lib.parseMag
   rw [if_neg (by rw [hc]; simp)]
   have := parse_dig [] u (by omega)
   rw [List.append_nil] at this
   rw [this]; rfl
  unfold Lib.atoiAll
  simp only
  rw [if_pos (.inr (by decide)), hp]
  simp only
  rw [if_neg (fun h => h.1 (by decide)), if_neg (by omega), if_pos (by decide)]
theorem decS_list (v : Int) : (decS v).data.toList = Lib.itoa v := by
 unfold decS
 rw [List.toList_toArray]
theorem numP_dec (v : Int) (h0 : -9223372036854775808 ≤ v) (h1 : v ≤ 9223372036854775807) : numP (decS v) = some v := by
 unfold numP
 rw [decS_list, Lib.parseIntB_64, atoi_itoa v h0 h1]
 simp only [if_true]
theorem numP_inv {t : ByteArray} {v : Int} (h : numP t = some v) : t = decS v ∧ -9223372036854775808 ≤ v ∧ v ≤ 9223372036854775807 := by
 unfold numP at h
 split at h
 ·rename_i v' hp
  split at h
  ·rename_i he
   cases h
   exact ⟨he.symm, parse_range hp⟩
  ·cases h
 ·cases h
theorem frame_list (t e : ByteArray) (h : t.size ≤ 9999999) : (frameS t e).data.toList = Lib.decDigits t.size ++ 58 :: (t.data.toList ++ e.data.toList) := by
 unfold frameS
 rw [if_pos h]
 simp only [ByteArray.data_append, Array.toList_append, decS_list]
 rw [Lib.itoa_nonneg]
 simp
theorem frameS_len (t e : ByteArray) (h : t.size ≤ 9999999) : (frameS t e).size = Lib.nDigits t.size + 1 + t.size + e.size := by
 show (frameS t e).data.size = _
 rw [← Array.length_toList, frame_list t e h]
 simp only [List.length_append, List.length_cons, Lib.decDigits_length, Array.length_toList]
 show _ + (t.size + e.size + 1) = _
 omega
theorem cut_frame (t e r : ByteArray) (h : t.size ≤ 9999999) (he : e.size = 1) :
  cutP (frameS t e ++ r) = (t, (frameS t e).size, 0) ∧ ((frameS t e ++ r).extract ((frameS t e).size - 1) (frameS t e).size).data.toList = e.data.toList := by
 have hL : (frameS t e ++ r).data.toList = Lib.decDigits t.size ++ 58 :: (t.data.toList ++ (e.data.toList ++ r.data.toList)) := by
  rw [ByteArray.data_append, Array.toList_append, frame_list t e h]
  simp
 have hsz := frameS_len t e h
 have hsz2 : (frameS t e ++ r).size = (frameS t e).size + r.size := ByteArray.size_append
 have hd : (Lib.decDigits t.size).length = Lib.nDigits t.size := Lib.decDigits_length _
 have hp := Lib.nDigits_pos t.size
 have hlen : lenP 0 0 (frameS t e ++ r).data.toList = (t.size, Lib.nDigits t.size + 1, 0) := by
  rw [hL, lenP_dig _ _ (by omega), lenP, if_neg (by decide), if_neg]
  rintro (h0 | h0)
  ·omega
  ·exact h0 (by decide)
 constructor
 ·unfold cutP
  rw [hlen]
  simp only [if_true]
  rw [if_neg (by omega)]
  have h1 : (frameS t e ++ r).extract (Lib.nDigits t.size + 1) (Lib.nDigits t.size + 1 + t.size) = t := by
   apply ByteArray.ext
   apply Array.ext'
   rw [Lib.extract_data, hL]
   rw [show Lib.nDigits t.size + 1 = (Lib.decDigits t.size ++ [58]).length by simp [hd]]
   rw [show Lib.decDigits t.size ++ 58 :: (t.data.toList ++ (e.data.toList ++ r.data.toList)) = (Lib.decDigits t.size ++ [58]) ++ (t.data.toList ++ (e.data.toList ++ r.data.toList)) by simp]
   rw [List.drop_left, Nat.add_sub_cancel_left]
   rw [show t.size = t.data.toList.length from rfl, List.take_left]
  rw [h1]
  congr 2
  omega
 ·rw [Lib.extract_data, hL]
  rw [show (frameS t e).size - 1 = ((Lib.decDigits t.size ++ [58]) ++ t.data.toList).length by
   simp only [List.length_append, hd, List.length_singleton]
   show _ = _ + 1 + t.size
   omega]
  rw [show Lib.decDigits t.size ++ 58 :: (t.data.toList ++ (e.data.toList ++ r.data.toList)) = ((Lib.decDigits t.size ++ [58]) ++ t.data.toList) ++ (e.data.toList ++ r.data.toList) by simp]
  have hx : (frameS t e).size - ((Lib.decDigits t.size ++ [58]) ++ t.data.toList).length = e.data.toList.length := by
   simp only [List.length_append, hd, List.length_singleton]
   show (frameS t e).size - (Lib.nDigits t.size + 1 + t.size) = e.size
   omega
  rw [List.drop_left, hx, List.take_left]
theorem getP_num (d : Nat) (m : Int) (hm : ¬ m = 0) (t r : ByteArray) (h : t.size ≤ 9999999) : getP (d + 1) (frameS t ⟨#[35]⟩ ++ r) m = (match numP t with | some v => .ok ⟨1, v, ⟨#[]⟩, .nil, (frameS t ⟨#[35]⟩).size, 1⟩ | none => .error 1) := by
 obtain ⟨h1, h2⟩ := cut_frame t ⟨#[35]⟩ r h rfl
 unfold getP
 rw [h1]
 simp only [if_true, if_neg hm]
 rw [if_pos h2]
 all_goals (cases numP t <;> rfl)
theorem getP_str (d : Nat) (m : Int) (hm : ¬ m = 0) (t r : ByteArray) (h : t.size ≤ 9999999) : getP (d + 1) (frameS t ⟨#[44]⟩ ++ r) m = .ok ⟨2, 0, t, .nil, (frameS t ⟨#[44]⟩).size, 1⟩ := by
 obtain ⟨h1, h2⟩ := cut_frame t ⟨#[44]⟩ r h rfl
 unfold getP
 rw [h1]
 simp only [if_true, if_neg hm]
 rw [if_neg (by rw [h2]; decide), if_pos h2]
def allR (t : ByteArray) : Except Nat G := match getR t with | .ok x => if x.b = t.size then .ok x else .error 1 | .error _ => .error 1
theorem append_none (t : ByteArray) : t ++ ⟨#[]⟩ = t := by
 apply ByteArray.ext
 rw [ByteArray.data_append]
 simp
end Go.Proofs.YtoealjcjpjapkaaGreatDoor
