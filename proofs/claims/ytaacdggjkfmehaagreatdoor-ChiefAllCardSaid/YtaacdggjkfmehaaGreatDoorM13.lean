/-
  Contracts of the program, and what they rest on.
-/
import Derived.Test.YtaacdggjkfmehaaGreatDoorM12
import Derived.Lib.ParseIntBTie
namespace Go.Proofs.YtaacdggjkfmehaaGreatDoor
open Go.RowKit
def PartZ (q : Nat) (k n : Int) (s : ByteArray) (ad : Option Addr) (len cap : Nat) (b : Int) (w : World) : Prop :=
  w.cell? ⟨q, 0, none⟩ = some (.int .i64 k) ∧ w.cell? ⟨q, 1, none⟩ = some (.int .i64 n) ∧ w.cell? ⟨q, 2, none⟩ = some (.string s) ∧ w.cell? ⟨q, 3, none⟩ = some (.slice ad len cap) ∧ w.cell? ⟨q, 4, none⟩ = some (.int .i64 b)
set_option maxRecDepth 100000 in
set_option maxHeartbeats 4000000 in
theorem Get_any (t : ByteArray) (w : World) (P : Int → Int → ByteArray → Option Addr → Nat → Nat → Int → Int → World → Prop)
    (hP : ∀ k n s ad len cap b e w1 w2, P k n s ad len cap b e w1 → (∀ j, j ≠ w.heap.size → j < w1.heap.size → w2.heap[j]? = w1.heap[j]?) → P k n s ad len cap b e w2)
    (H : Calls Tryz.prog 106 #[.string t, .int .i64 6, .int .i64 6000] (w.alloc (.cells #[.int .i64 0, .int .i64 0, .string ⟨#[]⟩, .slice none 0 0] 121)) fun e w' => Below (w.alloc (.cells #[.int .i64 0, .int .i64 0, .string ⟨#[]⟩, .slice none 0 0] 121)).heap.size (w.alloc (.cells #[.int .i64 0, .int .i64 0, .string ⟨#[]⟩, .slice none 0 0] 121)) w' ∧ ∃ k n s ad len cap b c er, e = .returned (.tuple #[.agg #[.int .i64 k, .int .i64 n, .string s, .slice ad len cap, .int .i64 b, .int .i64 c], .int .i64 er]) ∧ P k n s ad len cap b er w') :
    Calls Tryz.prog 94 #[.string t] w fun e w' => Below w.heap.size w w' ∧ ∃ k n s ad len cap b er, e = .returned (.tuple #[.agg #[.int .i64 k, .int .i64 n, .string s, .slice ad len cap], .int .i64 b, .int .i64 er]) ∧ P k n s ad len cap b er w' := by
  have HB0 : Hid (Below w.heap.size w (w.alloc (.cells #[.int .i64 0, .int .i64 0, .string ⟨#[]⟩, .slice none 0 0] 121))) := Lib.hid ((Below.refl _ _).alloc (Nat.le_refl _) _)
  have H' := Lib.hid H
  have HP := Lib.hid hP
  clear H hP
  go_enter Tryz.func94, Tryz.ntmps94
  go_wp2_with fail
  refine H'.out.mono ?_
  rintro _ w2 ⟨hb2, k, n, s, ad, len, cap, b, c, er, rfl, hp⟩
  have HPP := Lib.hid hp
  have HB2 := Lib.hid (HB0.out.trans (hb2.mono HB0.out.size))
  have hlt : w.heap.size < w2.heap.size := by have := hb2.size; simp at this; omega
  have c0 : w2.cell? ⟨w.heap.size, 0, none⟩ = some (.int .i64 0) := by rw [hb2.cell (by simp)]; go_simp
  have z0 : w2.frozen? ⟨w.heap.size, 0, none⟩ = false := by rw [hb2.frozen (by simp)]; go_simp
  have c1 : w2.cell? ⟨w.heap.size, 1, none⟩ = some (.int .i64 0) := by rw [hb2.cell (by simp)]; go_simp
  have z1 : w2.frozen? ⟨w.heap.size, 1, none⟩ = false := by rw [hb2.frozen (by simp)]; go_simp
  have c2 : w2.cell? ⟨w.heap.size, 2, none⟩ = some (.string ⟨#[]⟩) := by rw [hb2.cell (by simp)]; go_simp
  have z2 : w2.frozen? ⟨w.heap.size, 2, none⟩ = false := by rw [hb2.frozen (by simp)]; go_simp
  have c3 : w2.cell? ⟨w.heap.size, 3, none⟩ = some (.slice none 0 0) := by rw [hb2.cell (by simp)]; go_simp
  have z3 : w2.frozen? ⟨w.heap.size, 3, none⟩ = false := by rw [hb2.frozen (by simp)]; go_simp
  clear hb2 hp
  go_wp2_with fail
  have hS : PartZ w2.heap.size k n s ad len cap b (World.drew (w2.alloc (.cells #[.int .i64 k, .int .i64 n, .string s, .slice ad len cap, .int .i64 b, .int .i64 c] 146))) := by
    refine ⟨?_, ?_, ?_, ?_, ?_⟩ <;> go_simp
  have hne : ¬ w2.heap.size = w.heap.size := by omega
  have hne' : ¬ w.heap.size = w2.heap.size := by omega
  refine wp_region_held (S := PartZ w2.heap.size k n s ad len cap b) (by kernel_rfl) ?_
  change wpAnyH _ _ _ _ _ _ _ _ (World.drew _)
  refine wpAnyH_take (i := 0) (v := Value.pointer (some ⟨w2.heap.size, 0, none⟩)) rfl (by kernel_rfl) (by kernel_rfl) (by kernel_rfl) (fun _ _ _ h => h) (Or.inl ⟨by rfl, ?_⟩) hS ?_
  · intro w' ⟨s0, s1, s2, s3, s4⟩; go_simp
  refine wpAnyH_take (i := 1) (v := Value.agg #[.int .i64 k, .int .i64 n, .string s, .slice ad len cap]) rfl (by kernel_rfl) (by kernel_rfl) (by kernel_rfl) (fun _ _ _ h => h) (Or.inl ⟨by rfl, ?_⟩) hS ?_
  · intro w' ⟨s0, s1, s2, s3, s4⟩; go_simp
  refine wpAnyH_take (i := 2) (v := Value.pointer (some ⟨w2.heap.size, 4, none⟩)) rfl (by kernel_rfl) (by kernel_rfl) (by kernel_rfl) (fun _ _ _ h => h) (Or.inl ⟨by rfl, ?_⟩) hS ?_
  · intro w' ⟨s0, s1, s2, s3, s4⟩; go_simp
  refine wpAnyH_take (i := 3) (v := Value.int .i64 b) rfl (by kernel_rfl) (by kernel_rfl) (by kernel_rfl) (fun _ _ _ h => h) (Or.inl ⟨by rfl, ?_⟩) hS ?_
  · intro w' ⟨s0, s1, s2, s3, s4⟩; go_simp
  refine wpAnyH_take (i := 4) (v := Value.int .i64 er) rfl (by kernel_rfl) (by kernel_rfl) (by kernel_rfl) (fun _ _ _ h => h) (Or.inl ⟨by rfl, ?_⟩) hS ?_
  · intro w' ⟨s0, s1, s2, s3, s4⟩; go_simp
  refine wpAnyH_ready (rs := [5]) (by kernel_rfl) (by simp) ?_
  refine AllReadyH.cons rfl (fun K hK => ?_) AllReadyH.nil
  go_simp
  refine hK.out _ _ ?_ (fun hS1 => ?_)
  · clear hS
    refine ⟨?_, ?_, ?_, ?_, ?_⟩ <;> go_simp
  clear hK hS
  refine wpAnyH_ready (rs := [6]) (by kernel_rfl) (by simp) ?_
  refine AllReadyH.cons rfl (fun K hK => ?_) AllReadyH.nil
  go_simp
  refine hK.out _ _ hS1 (fun _ => ?_)
  clear hK
  refine wpAnyH_ready (rs := [7]) (by kernel_rfl) (by simp) ?_
  refine AllReadyH.cons rfl (fun K hK => ?_) AllReadyH.nil
  go_simp
  refine hK.out _ _ hS1 (fun _ => ?_)
  clear hK
  refine wpAnyH_done (by kernel_rfl) ?_ _
  go_wp2_with fail
  have d0 : ((((((w2.setCell ⟨w.heap.size, 0, none⟩ (.int .i64 k)).setCell ⟨w.heap.size, 1, none⟩ (.int .i64 n)).setCell ⟨w.heap.size, 2, none⟩ (.string s)).setCell ⟨w.heap.size, 3, none⟩ (.slice ad len cap)).alloc (.cells #[.int .i64 k, .int .i64 n, .string s, .slice ad len cap, .int .i64 b, .int .i64 c] 146)).drew).cell? ⟨w.heap.size, 0, none⟩ = some (.int .i64 k) := by go_simp
  have d1 : ((((((w2.setCell ⟨w.heap.size, 0, none⟩ (.int .i64 k)).setCell ⟨w.heap.size, 1, none⟩ (.int .i64 n)).setCell ⟨w.heap.size, 2, none⟩ (.string s)).setCell ⟨w.heap.size, 3, none⟩ (.slice ad len cap)).alloc (.cells #[.int .i64 k, .int .i64 n, .string s, .slice ad len cap, .int .i64 b, .int .i64 c] 146)).drew).cell? ⟨w.heap.size, 1, none⟩ = some (.int .i64 n) := by go_simp
  have d2 : ((((((w2.setCell ⟨w.heap.size, 0, none⟩ (.int .i64 k)).setCell ⟨w.heap.size, 1, none⟩ (.int .i64 n)).setCell ⟨w.heap.size, 2, none⟩ (.string s)).setCell ⟨w.heap.size, 3, none⟩ (.slice ad len cap)).alloc (.cells #[.int .i64 k, .int .i64 n, .string s, .slice ad len cap, .int .i64 b, .int .i64 c] 146)).drew).cell? ⟨w.heap.size, 2, none⟩ = some (.string s) := by go_simp
  have d3 : ((((((w2.setCell ⟨w.heap.size, 0, none⟩ (.int .i64 k)).setCell ⟨w.heap.size, 1, none⟩ (.int .i64 n)).setCell ⟨w.heap.size, 2, none⟩ (.string s)).setCell ⟨w.heap.size, 3, none⟩ (.slice ad len cap)).alloc (.cells #[.int .i64 k, .int .i64 n, .string s, .slice ad len cap, .int .i64 b, .int .i64 c] 146)).drew).cell? ⟨w.heap.size, 3, none⟩ = some (.slice ad len cap) := by go_simp
  refine bodyPost_ret (v := .tuple #[.agg #[.int .i64 k, .int .i64 n, .string s, .slice ad len cap], .int .i64 b, .int .i64 er]) (by simp [results, Tryz.results94, go_sem, d0, d1, d2, d3]) rfl ⟨(((((HB2.out.setCell (by simp) _).setCell (by simp) _).setCell (by simp) _).setCell (by simp) _).alloc (by simp; omega) _).drew, k, n, s, ad, len, cap, b, er, rfl, ?_⟩
  refine HP.out _ _ _ _ _ _ _ _ _ _ HPP.out (fun j hj hl => ?_)
  rw [show (∀ (x : World), x.drew.heap = x.heap) from fun _ => rfl, heap_alloc_old _ _ (by simpa using hl)]
  rw [heap_setCell_other _ _ _ _ hj, heap_setCell_other _ _ _ _ hj, heap_setCell_other _ _ _ _ hj, heap_setCell_other _ _ _ _ hj]
def GetV (r : Except Nat G) (w : World) (e : Ending) (w' : World) : Prop :=
  Below w.heap.size w w' ∧
  match r with
  | .error x => e = .returned (.tuple #[.agg #[.int .i64 0, .int .i64 0, .string ⟨#[]⟩, .slice none 0 0], .int .i64 0, .int .i64 x])
  | .ok x => ∃ ad cap, e = .returned (.tuple #[.agg #[.int .i64 x.k, .int .i64 x.n, .string x.s, .slice ad x.l.len (x.l.len + cap)], .int .i64 x.b, .int .i64 0]) ∧ RepG w' (fun b => w.heap.size ≤ b) ad x.l
def getR (t : ByteArray) : Except Nat G := getP 6 t 6000
theorem Get_p (t : ByteArray) (w : World) (hs : t.size ≤ 9223372036854775807) (hlib : LibAt w) :
    Calls Tryz.prog 94 #[.string t] w (GetV (getR t) w) := by
  have hb0 : Below w.heap.size w (w.alloc (.cells #[.int .i64 0, .int .i64 0, .string ⟨#[]⟩, .slice none 0 0] 121)) := (Below.refl _ _).alloc (Nat.le_refl _) _
  have H := get_q 6 (by decide) t 6000 (w.alloc (.cells #[.int .i64 0, .int .i64 0, .string ⟨#[]⟩, .slice none 0 0] 121)) hs (by decide) (by decide) (hlib.below hb0)
  unfold getR
  generalize getP 6 t 6000 = r at *
  unfold GetPost at H
  cases r with
  | error e =>
    refine (Get_any t w (fun k n s ad len cap b er _ => k = 0 ∧ n = 0 ∧ s = ⟨#[]⟩ ∧ ad = none ∧ len = 0 ∧ cap = 0 ∧ b = 0 ∧ er = (e : Int)) (fun _ _ _ _ _ _ _ _ _ _ h _ => h) (H.mono fun x w' ⟨h1, h2⟩ => ⟨h1, 0, 0, ⟨#[]⟩, none, 0, 0, 0, 0, e, h2, rfl, rfl, rfl, rfl, rfl, rfl, rfl, rfl⟩)).mono ?_
    rintro x w' ⟨h1, k, n, s, ad, len, cap, b, er, rfl, rfl, rfl, rfl, rfl, rfl, rfl, rfl, rfl⟩
    exact ⟨h1, rfl⟩
  | ok x =>
    refine (Get_any t w (fun k n s ad len cap b er w' => k = x.k ∧ n = x.n ∧ s = x.s ∧ len = x.l.len ∧ b = (x.b : Int) ∧ er = 0 ∧ x.l.len ≤ cap ∧ RepG w' (fun b => w.heap.size < b) ad x.l) (fun _ _ _ _ _ _ _ _ _ _ h hh => ?_) (H.mono fun y w' ⟨h1, ad, cap, h2, h3⟩ => ⟨h1, x.k, x.n, x.s, ad, x.l.len, x.l.len + cap, x.b, x.c, 0, h2, rfl, rfl, rfl, rfl, rfl, rfl, Nat.le_add_right _ _, h3.to (fun b hb _ => ⟨by simp at hb; omega, rfl⟩)⟩)).mono ?_
    · obtain ⟨h1, h2, h3, h4, h5, h6, h8, h7⟩ := h
      exact ⟨h1, h2, h3, h4, h5, h6, h8, h7.to (fun b hb hl => ⟨hb, hh b (by omega) hl⟩)⟩
    · rintro y w' ⟨h1, k, n, s, ad, len, cap, b, er, rfl, rfl, rfl, rfl, rfl, rfl, rfl, hc, hg⟩
      exact ⟨h1, ad, cap - x.l.len, by rw [Nat.add_sub_cancel' hc], hg.to (fun b hb _ => ⟨by omega, rfl⟩)⟩
end Go.Proofs.YtaacdggjkfmehaaGreatDoor
namespace Go.Proofs.YtaacdggjkfmehaaGreatDoor
open Go.RowKit
theorem nd_le : ∀ (d u : Nat), 1 ≤ d → u < 10 ^ d → Lib.nDigits u ≤ d
  | 0, _, h, _ => by omega
  | d + 1, u, _, h => by
    by_cases h0 : u < 10
    · rw [Lib.nDigits_small h0]; omega
    · rw [Lib.nDigits_big h0]
      rw [Nat.pow_succ] at h
      by_cases hd : d = 0
      · subst hd; simp at h; omega
      · have := nd_le d (u / 10) (by omega) (by omega)
        omega
theorem dig_toNat (d : Nat) (h : d < 10) : (UInt8.ofNat (48 + d)).toNat = 48 + d := by
  simp only [UInt8.toNat_ofNat']
  omega
theorem lenP_dig (l : List UInt8) : ∀ (u : Nat), u < 10000000 → lenP 0 0 (Lib.decDigits u ++ l) = lenP u (Lib.nDigits u) l := by
  intro u
  induction u using Nat.strongRecOn generalizing l with
  | _ u ih =>
    intro hu
    by_cases h : u < 10
    · rw [Lib.decDigits, dif_pos h, Lib.nDigits_small h]
      show lenP 0 0 (UInt8.ofNat (48 + u) :: l) = _
      have hd := dig_toNat u h
      rw [lenP, if_pos (by omega), if_neg (by omega), hd]
      congr 1
      omega
    · rw [Lib.decDigits, dif_neg h, Lib.nDigits_big h, List.append_assoc, ih (u / 10) (by omega) _ (by omega)]
      show lenP (u / 10) (Lib.nDigits (u / 10)) (UInt8.ofNat (48 + u % 10) :: l) = _
      have hd := dig_toNat (u % 10) (by omega)
      have hn := nd_le 6 (u / 10) (by omega) (by omega)
      rw [lenP, if_pos (by omega), if_neg (by omega), hd]
      congr 1
      omega
theorem parse_dig (l : List UInt8) : ∀ (u : Nat), u < 18446744073709551616 → Lib.parseUint10 0 (Lib.decDigits u ++ l) = Lib.parseUint10 u l := by
  intro u
  induction u using Nat.strongRecOn generalizing l with
  | _ u ih =>
    intro hu
    by_cases h : u < 10
    · rw [Lib.decDigits, dif_pos h]
      show Lib.parseUint10 0 (UInt8.ofNat (48 + u) :: l) = _
      have hd := dig_toNat u h
      rw [Lib.parseUint10, if_pos (by omega), if_neg (by omega), if_neg (by omega), hd]
      congr 1
      omega
    · rw [Lib.decDigits, dif_neg h, List.append_assoc, ih (u / 10) (by omega) _ (by omega)]
      show Lib.parseUint10 (u / 10) (UInt8.ofNat (48 + u % 10) :: l) = _
      have hd := dig_toNat (u % 10) (by omega)
      rw [Lib.parseUint10, if_pos (by omega), if_neg (by omega), if_neg (by omega), hd]
      congr 1
      omega
theorem dig_all : ∀ (u : Nat), ∀ c ∈ Lib.decDigits u, 48 ≤ c.toNat ∧ c.toNat ≤ 57 := by
  intro u
  induction u using Nat.strongRecOn with
  | _ u ih =>
    intro c hc
    by_cases h : u < 10
    · rw [Lib.decDigits, dif_pos h] at hc
      obtain rfl := List.mem_singleton.1 hc
      rw [dig_toNat u h]; omega
    · rw [Lib.decDigits, dif_neg h] at hc
      rcases List.mem_append.1 hc with hc | hc
      · exact ih (u / 10) (by omega) c hc
      · obtain rfl := List.mem_singleton.1 hc
        rw [dig_toNat _ (by omega)]; omega
theorem dig_head : ∀ (u : Nat), ∃ c r, Lib.decDigits u = c :: r ∧ (1 ≤ u → 49 ≤ c.toNat) ∧ 48 ≤ c.toNat ∧ c.toNat ≤ 57 ∧ (u = 0 → c = 48 ∧ r = []) := by
  intro u
  induction u using Nat.strongRecOn with
  | _ u ih =>
    by_cases h : u < 10
    · refine ⟨UInt8.ofNat (48 + u), [], by rw [Lib.decDigits, dif_pos h], ?_, ?_, ?_, ?_⟩
      · intro h1; rw [dig_toNat u h]; omega
      · rw [dig_toNat u h]; omega
      · rw [dig_toNat u h]; omega
      · rintro rfl; exact ⟨rfl, rfl⟩
    · obtain ⟨c, r, h1, h2, h3, h4, _⟩ := ih (u / 10) (by omega)
      refine ⟨c, r ++ [UInt8.ofNat (48 + u % 10)], by rw [Lib.decDigits, dif_neg h, h1]; rfl, fun _ => h2 (by omega), h3, h4, fun h0 => by omega⟩
theorem itoa_form (v : Int) : (∃ u : Nat, v = u ∧ Lib.itoa v = Lib.decDigits u) ∨ (∃ u : Nat, 1 ≤ u ∧ v = -(u : Int) ∧ Lib.itoa v = 45 :: Lib.decDigits u) := by
  by_cases h : v < 0
  · refine .inr ⟨v.natAbs, by omega, by omega, ?_⟩
    unfold Lib.itoa; rw [if_pos h]
  · refine .inl ⟨v.toNat, by omega, ?_⟩
    unfold Lib.itoa; rw [if_neg h]
theorem atoi_itoa (v : Int) (h0 : -9223372036854775808 ≤ v) (h1 : v ≤ 9223372036854775807) : Lib.atoiAll (Lib.itoa v) = .ok v := by
  rcases itoa_form v with ⟨u, rfl, hu⟩ | ⟨u, h, rfl, hu⟩
  · rw [hu]
    obtain ⟨c, r, hc, _, hc1, hc2, _⟩ := dig_head u
    have hp : Lib.parseMag (Lib.decDigits u) = .ok u := by
      unfold Lib.parseMag
      rw [if_neg (by rw [hc]; simp)]
      have := parse_dig [] u (by omega)
      rw [List.append_nil] at this
      rw [this]; rfl
    rw [hc] at hp ⊢
    unfold Lib.atoiAll
    simp only
    rw [if_neg (by omega), hp]
    simp only
    rw [if_neg (by omega), if_neg (by omega), if_neg (by omega)]
  · rw [hu]
    obtain ⟨c, r, hc, _, hc1, hc2, _⟩ := dig_head u
    have hp : Lib.parseMag (Lib.decDigits u) = .ok u := by
      unfold Lib.parseMag
      rw [if_neg (by rw [hc]; simp)]
      have := parse_dig [] u (by omega)
      rw [List.append_nil] at this
      rw [this]; rfl
    unfold Lib.atoiAll
    simp only
    rw [if_pos (.inr (by decide)), hp]
    simp only
    rw [if_neg (fun h => h.1 (by decide)), if_neg (by omega), if_pos (by decide)]
theorem decS_list (v : Int) : (decS v).data.toList = Lib.itoa v := by
  unfold decS
  rw [List.toList_toArray]
theorem numP_dec (v : Int) (h0 : -9223372036854775808 ≤ v) (h1 : v ≤ 9223372036854775807) : numP (decS v) = some v := by
  unfold numP
  rw [decS_list, Lib.parseIntB_64, atoi_itoa v h0 h1]
  simp only [if_true]
theorem itoa_len (v : Int) (h0 : -9223372036854775808 ≤ v) (h1 : v ≤ 9223372036854775807) : 1 ≤ (Lib.itoa v).length ∧ (Lib.itoa v).length ≤ 20 := by
  rcases itoa_form v with ⟨u, rfl, hu⟩ | ⟨u, h, rfl, hu⟩
  · rw [hu, Lib.decDigits_length]
    exact ⟨Lib.nDigits_pos u, Nat.le_succ_of_le (nd_le 19 u (by decide) (by omega))⟩
  · rw [hu, List.length_cons, Lib.decDigits_length]
    have := nd_le 19 u (by decide) (by omega)
    omega
theorem frame_list (t e : ByteArray) (h : t.size ≤ 9999999) : (frameS t e).data.toList = Lib.decDigits t.size ++ 58 :: (t.data.toList ++ e.data.toList) := by
  unfold frameS
  rw [if_pos h]
  simp only [ByteArray.data_append, Array.toList_append, decS_list]
  rw [Lib.itoa_nonneg]
  simp
theorem frameS_len (t e : ByteArray) (h : t.size ≤ 9999999) : (frameS t e).size = Lib.nDigits t.size + 1 + t.size + e.size := by
  show (frameS t e).data.size = _
  rw [← Array.length_toList, frame_list t e h]
  simp only [List.length_append, List.length_cons, Lib.decDigits_length, Array.length_toList]
  show _ + (t.size + e.size + 1) = _
  omega
theorem cut_frame (t e r : ByteArray) (h : t.size ≤ 9999999) (he : e.size = 1) :
    cutP (frameS t e ++ r) = (t, (frameS t e).size, 0) ∧ ((frameS t e ++ r).extract ((frameS t e).size - 1) (frameS t e).size).data.toList = e.data.toList := by
  have hL : (frameS t e ++ r).data.toList = Lib.decDigits t.size ++ 58 :: (t.data.toList ++ (e.data.toList ++ r.data.toList)) := by
    rw [ByteArray.data_append, Array.toList_append, frame_list t e h]
    simp
  have hsz := frameS_len t e h
  have hsz2 : (frameS t e ++ r).size = (frameS t e).size + r.size := ByteArray.size_append
  have hd : (Lib.decDigits t.size).length = Lib.nDigits t.size := Lib.decDigits_length _
  have hp := Lib.nDigits_pos t.size
  have hlen : lenP 0 0 (frameS t e ++ r).data.toList = (t.size, Lib.nDigits t.size + 1, 0) := by
    rw [hL, lenP_dig _ _ (by omega), lenP, if_neg (by decide), if_neg]
    rintro (h0 | h0)
    · omega
    · exact h0 (by decide)
  constructor
  · unfold cutP
    rw [hlen]
    simp only [if_true]
    rw [if_neg (by omega)]
    have h1 : (frameS t e ++ r).extract (Lib.nDigits t.size + 1) (Lib.nDigits t.size + 1 + t.size) = t := by
      apply ByteArray.ext
      apply Array.ext'
      rw [Lib.extract_data, hL]
      rw [show Lib.nDigits t.size + 1 = (Lib.decDigits t.size ++ [58]).length by simp [hd]]
      rw [show Lib.decDigits t.size ++ 58 :: (t.data.toList ++ (e.data.toList ++ r.data.toList)) = (Lib.decDigits t.size ++ [58]) ++ (t.data.toList ++ (e.data.toList ++ r.data.toList)) by simp]
      rw [List.drop_left, Nat.add_sub_cancel_left]
      rw [show t.size = t.data.toList.length from rfl, List.take_left]
    rw [h1]
    congr 2
    omega
  · rw [Lib.extract_data, hL]
    rw [show (frameS t e).size - 1 = ((Lib.decDigits t.size ++ [58]) ++ t.data.toList).length by
      simp only [List.length_append, hd, List.length_singleton]
      show _ = _ + 1 + t.size
      omega]
    rw [show Lib.decDigits t.size ++ 58 :: (t.data.toList ++ (e.data.toList ++ r.data.toList)) = ((Lib.decDigits t.size ++ [58]) ++ t.data.toList) ++ (e.data.toList ++ r.data.toList) by simp]
    have hx : (frameS t e).size - ((Lib.decDigits t.size ++ [58]) ++ t.data.toList).length = e.data.toList.length := by
      simp only [List.length_append, hd, List.length_singleton]
      show (frameS t e).size - (Lib.nDigits t.size + 1 + t.size) = e.size
      omega
    rw [List.drop_left, hx, List.take_left]
theorem getP_num (d : Nat) (m : Int) (hm : ¬ m = 0) (t r : ByteArray) (h : t.size ≤ 9999999) : getP (d + 1) (frameS t ⟨#[35]⟩ ++ r) m = (match numP t with | some v => .ok ⟨1, v, ⟨#[]⟩, .nil, (frameS t ⟨#[35]⟩).size, 1⟩ | none => .error 1) := by
  obtain ⟨h1, h2⟩ := cut_frame t ⟨#[35]⟩ r h rfl
  unfold getP
  rw [h1]
  simp only [if_true, if_neg hm]
  rw [if_pos h2]
  all_goals (cases numP t <;> rfl)
theorem getP_str (d : Nat) (m : Int) (hm : ¬ m = 0) (t r : ByteArray) (h : t.size ≤ 9999999) : getP (d + 1) (frameS t ⟨#[44]⟩ ++ r) m = .ok ⟨2, 0, t, .nil, (frameS t ⟨#[44]⟩).size, 1⟩ := by
  obtain ⟨h1, h2⟩ := cut_frame t ⟨#[44]⟩ r h rfl
  unfold getP
  rw [h1]
  simp only [if_true, if_neg hm]
  rw [if_neg (by rw [h2]; decide), if_pos h2]
def allR (t : ByteArray) : Except Nat G := match getR t with | .ok x => if x.b = t.size then .ok x else .error 1 | .error _ => .error 1
theorem append_none (t : ByteArray) : t ++ ⟨#[]⟩ = t := by
  apply ByteArray.ext
  rw [ByteArray.data_append]
  simp
end Go.Proofs.YtaacdggjkfmehaaGreatDoor
namespace Go.Proofs.YtaacdggjkfmehaaGreatDoor
open Go.RowKit
theorem F.len_zero {l : F} (h : l.len = 0) : l = .nil := by
  cases l with
  | nil => rfl
  | cons => simp only [F.len] at h; omega
theorem frameS_big {t e : ByteArray} (h : ¬ (frameS t e).size = 0) : t.size ≤ 9999999 := by
  unfold frameS at h
  by_cases hs : t.size ≤ 9999999
  · exact hs
  · rw [if_neg hs] at h
    exact absurd rfl h
theorem extract_app (a b : ByteArray) : (a ++ b).extract a.size (a ++ b).size = b := by
  apply ByteArray.ext
  apply Array.ext'
  rw [Lib.extract_data, ByteArray.data_append, Array.toList_append, ByteArray.size_append]
  rw [show a.size = a.data.toList.length from rfl, List.drop_left, Nat.add_sub_cancel_left]
  exact List.take_length
theorem getP_lst (d : Nat) (m : Int) (hm : ¬ m = 0) (t r : ByteArray) (h : t.size ≤ 9999999) : getP (d + 1) (frameS t ⟨#[93]⟩ ++ r) m = (match itemsP (getP d) (m - 1) (t.size + 1) t 0 with | some (l, z) => .ok ⟨3, 0, ⟨#[]⟩, l, (frameS t ⟨#[93]⟩).size, 1 + z⟩ | none => .error 1) := by
  obtain ⟨h1, h2⟩ := cut_frame t ⟨#[93]⟩ r h rfl
  unfold getP
  rw [h1]
  simp only [if_true, if_neg hm]
  rw [if_neg (by rw [h2]; decide), if_neg (by rw [h2]; decide), if_pos h2]
  all_goals (generalize itemsP (getP d) (m - 1) (t.size + 1) t 0 = q; rcases q with _ | ⟨l, z⟩ <;> rfl)
def TripQ (k n : Int) (s : ByteArray) (l : F) : Prop := ∀ (d : Nat) (m : Int) (r : ByteArray), vmayB k n s l d m = true → (-9223372036854775808 ≤ n ∧ n ≤ 9223372036854775807) → l.wf → ¬ (putV k n s l).size = 0 →
  getP d (putV k n s l ++ r) m = .ok ⟨k, n, s, l, (putV k n s l).size, 1 + l.cnt⟩
theorem isEmpty_eq {s : ByteArray} (h : s.toList.isEmpty = true) : s = ⟨#[]⟩ := by
  rw [ByteArray.toList_eq, List.isEmpty_iff] at h
  apply empty_of_size
  show s.data.size = 0
  rw [← Array.length_toList, h]
  rfl
theorem items_trip (d : Nat) (m : Int) : ∀ (g : F) (acc T : ByteArray), g.All TripQ → g.wf → g.ok = true → g.dep ≤ d → putF g acc = some T →
    ∃ R : ByteArray, T = acc ++ R ∧ ∀ (n f : Nat), (n : Int) + g.cnt ≤ m → R.size < f → itemsP (getP d) m f R n = some (g, n + g.cnt)
  | .nil, acc, T, _, _, _, _, hp => by
    cases hp
    refine ⟨⟨#[]⟩, (append_none _).symm, fun n f _ hf => ?_⟩
    obtain ⟨f, rfl⟩ : ∃ f', f = f' + 1 := ⟨f - 1, by omega⟩
    rfl
  | .cons k n s l r, acc, T, hQ, hw, hok, hd, hp => by
    rw [putF_cons] at hp
    obtain ⟨hq, hQr⟩ := hQ
    obtain ⟨hwn, hwl, hwr⟩ := hw
    simp only [F.ok, Bool.and_eq_true] at hok
    simp only [F.dep] at hd
    by_cases hbad : (putV k n s l).size = 0 ∨ 9999999 < acc.size + (putV k n s l).size
    · rw [if_pos hbad] at hp; cases hp
    · rw [if_neg hbad] at hp
      obtain ⟨R, hT, hR⟩ := items_trip d m r _ _ hQr hwr hok.2 (by omega) hp
      refine ⟨putV k n s l ++ R, by rw [hT, ByteArray.append_assoc], fun c f hc hf => ?_⟩
      simp only [F.cnt] at hc
      rw [ByteArray.size_append] at hf
      obtain ⟨f, rfl⟩ : ∃ f', f = f' + 1 := ⟨f - 1, by omega⟩
      rw [step_arm (by rw [ByteArray.size_append]; omega)]
      have hm : vmayB k n s l d (m - c) = true := by
        unfold vmayB
        simp only [Bool.and_eq_true, decide_eq_true_eq]
        exact ⟨⟨⟨hok.1.1, hok.1.2⟩, by omega⟩, by omega⟩
      rw [hq d (m - c) R hm hwn hwl (by omega)]
      simp only
      rw [extract_app, hR (c + (1 + l.cnt)) f (by omega) (by omega)]
      simp only [F.cnt]
      congr 2
      omega
theorem trip_q (k n : Int) (s : ByteArray) (l : F) (hl : l.All TripQ) : TripQ k n s l := by
  intro d m r hm hn hwf hne
  unfold vmayB at hm
  simp only [Bool.and_eq_true, decide_eq_true_eq] at hm
  obtain ⟨⟨⟨hp, hok⟩, hd⟩, hc⟩ := hm
  obtain ⟨d, rfl⟩ : ∃ d', d = d' + 1 := ⟨d - 1, by omega⟩
  have hm0 : ¬ m = 0 := by omega
  unfold pureB at hp
  unfold putV at hne ⊢
  by_cases h1 : k = 1
  · subst h1
    rw [if_pos rfl] at hp hne ⊢
    simp only [Bool.and_eq_true, decide_eq_true_eq] at hp
    obtain rfl := F.len_zero hp.2
    obtain rfl := isEmpty_eq hp.1
    rw [getP_num d m hm0 _ r (frameS_big hne), numP_dec n hn.1 hn.2]
    simp only [F.cnt]
  rw [if_neg h1] at hp hne ⊢
  by_cases h2 : k = 2
  · subst h2
    rw [if_pos rfl] at hp hne ⊢
    simp only [Bool.and_eq_true, decide_eq_true_eq] at hp
    obtain rfl := F.len_zero hp.2
    obtain rfl := hp.1
    rw [getP_str d m hm0 _ r (frameS_big hne)]
    simp only [F.cnt]
  rw [if_neg h2] at hp hne ⊢
  by_cases h3 : k = 3
  · subst h3
    rw [if_pos rfl] at hp
    simp only [Bool.and_eq_true, decide_eq_true_eq] at hp
    obtain rfl := hp.1
    obtain rfl := isEmpty_eq hp.2
    cases ht : putF l ⟨#[]⟩ with
    | none =>
      rw [ht] at hne
      exact absurd rfl hne
    | some t =>
      rw [ht] at hne
      simp only at hne ⊢
      obtain ⟨R, hT, hR⟩ := items_trip d (m - 1) l _ _ hl hwf hok (by omega) ht
      have hTR : t = R := by
        rw [hT]
        apply ByteArray.ext
        rw [ByteArray.data_append]
        simp
      subst hTR
      rw [getP_lst d m hm0 _ r (frameS_big hne), hR 0 (t.size + 1) (by omega) (by omega)]
      simp only [Nat.zero_add]
  · rw [if_neg h3] at hp
    cases hp
theorem trip_all (f : F) : f.All TripQ := F.all_of trip_q f
theorem trip_p (k n : Int) (s : ByteArray) (l : F) (hm : vmay k n s l = true) (hn : -9223372036854775808 ≤ n ∧ n ≤ 9223372036854775807) (hw : l.wf) (hne : ¬ (putV k n s l).size = 0) (r : ByteArray) :
    getR (putV k n s l ++ r) = .ok ⟨k, n, s, l, (putV k n s l).size, 1 + l.cnt⟩ :=
  trip_q k n s l (trip_all l) 6 6000 r hm hn hw hne
end Go.Proofs.YtaacdggjkfmehaaGreatDoor
namespace Go.Proofs.YtaacdggjkfmehaaGreatDoor
open Go.RowKit
theorem dec_m5 : decS (-5) = ⟨#[45, 53]⟩ := by
  unfold decS Lib.itoa
  rw [if_pos (by decide), show (-5 : Int).natAbs = 5 from rfl, Lib.decDigits_one (by decide)]
  rfl
theorem dec_2 : decS 2 = ⟨#[50]⟩ := by
  unfold decS Lib.itoa
  rw [if_neg (by decide), show (2 : Int).toNat = 2 from rfl, Lib.decDigits_one (by decide)]
  rfl
theorem dec_10 : decS 10 = ⟨#[49, 48]⟩ := by
  unfold decS Lib.itoa
  rw [if_neg (by decide), show (10 : Int).toNat = 10 from rfl, Lib.decDigits_two (by decide) (by decide)]
  rfl
def BL : F := .cons 1 (-5) ⟨#[]⟩ .nil (.cons 2 0 ⟨#[97, 98]⟩ .nil .nil)
def BT : ByteArray := ⟨#[49, 48, 58, 50, 58, 45, 53, 35, 50, 58, 97, 98, 44, 93]⟩
theorem bl_may : vmay 3 0 ⟨#[]⟩ BL = true := by decide +kernel
theorem bl_a : putV 1 (-5) ⟨#[]⟩ .nil = ⟨#[50, 58, 45, 53, 35]⟩ := by
  unfold putV
  rw [if_pos rfl, dec_m5]
  unfold frameS
  rw [if_pos (by decide), show (((⟨#[45, 53]⟩ : ByteArray).size : Nat) : Int) = 2 from rfl, dec_2]
  rfl
theorem bl_b : putV 2 0 ⟨#[97, 98]⟩ .nil = ⟨#[50, 58, 97, 98, 44]⟩ := by
  unfold putV
  rw [if_neg (by decide), if_pos rfl]
  unfold frameS
  rw [if_pos (by decide), show (((⟨#[97, 98]⟩ : ByteArray).size : Nat) : Int) = 2 from rfl, dec_2]
  rfl
theorem bl_put : putS 3 0 ⟨#[]⟩ BL = BT := by
  unfold putS
  rw [if_pos bl_may]
  unfold putV
  rw [if_neg (by decide), if_neg (by decide)]
  have h : putF BL ⟨#[]⟩ = some ⟨#[50, 58, 45, 53, 35, 50, 58, 97, 98, 44]⟩ := by
    unfold BL
    rw [putF_cons, bl_a, if_neg (by decide), putF_cons, bl_b, if_neg (by decide)]
    rfl
  rw [h]
  show frameS _ _ = _
  unfold frameS
  rw [if_pos (by decide), show (((⟨#[50, 58, 45, 53, 35, 50, 58, 97, 98, 44]⟩ : ByteArray).size : Nat) : Int) = 10 from rfl, dec_10]
  rfl
theorem num_m5 : numP ⟨#[45, 53]⟩ = some (-5) := by
  unfold numP
  rw [show Lib.parseIntB 64 (⟨#[45, 53]⟩ : ByteArray).data.toList = .ok (-5) from by decide +kernel]
  simp only [dec_m5, if_true]
theorem get_a (m : Int) (hm : ¬ m = 0) (d : Nat) : getP (d + 1) ⟨#[50, 58, 45, 53, 35, 50, 58, 97, 98, 44]⟩ m = .ok ⟨1, -5, ⟨#[]⟩, .nil, 5, 1⟩ := by
  have hc : cutP ⟨#[50, 58, 45, 53, 35, 50, 58, 97, 98, 44]⟩ = (⟨#[45, 53]⟩, 5, 0) := by rfl
  unfold getP
  rw [hc]
  simp only [if_neg hm]
  rw [if_pos trivial, if_pos (by rfl), num_m5]
theorem get_b (m : Int) (hm : ¬ m = 0) (d : Nat) : getP (d + 1) ⟨#[50, 58, 97, 98, 44]⟩ m = .ok ⟨2, 0, ⟨#[97, 98]⟩, .nil, 5, 1⟩ := by
  have hc : cutP ⟨#[50, 58, 97, 98, 44]⟩ = (⟨#[97, 98]⟩, 5, 0) := by rfl
  unfold getP
  rw [hc]
  simp only [if_neg hm]
  rw [if_pos trivial, if_neg (by decide), if_pos (by rfl)]
theorem get_t : getR (BT ++ ⟨#[122]⟩) = .ok ⟨3, 0, ⟨#[]⟩, BL, 14, 3⟩ := by
  have hc : cutP (BT ++ ⟨#[122]⟩) = (⟨#[50, 58, 45, 53, 35, 50, 58, 97, 98, 44]⟩, 14, 0) := by rfl
  unfold getR getP
  rw [hc]
  simp only [if_neg (show ¬ (6000 : Int) = 0 by decide)]
  rw [if_pos trivial, if_neg (by decide), if_neg (by decide), if_pos (by rfl)]
  have h : itemsP (getP 5) (6000 - 1) ((⟨#[50, 58, 45, 53, 35, 50, 58, 97, 98, 44]⟩ : ByteArray).size + 1) ⟨#[50, 58, 45, 53, 35, 50, 58, 97, 98, 44]⟩ 0 = some (BL, 2) := by
    rw [show (⟨#[50, 58, 45, 53, 35, 50, 58, 97, 98, 44]⟩ : ByteArray).size + 1 = 10 + 1 from rfl]
    rw [step_arm (by decide), get_a _ (by decide)]
    simp only
    rw [show (⟨#[50, 58, 45, 53, 35, 50, 58, 97, 98, 44]⟩ : ByteArray).extract 5 (⟨#[50, 58, 45, 53, 35, 50, 58, 97, 98, 44]⟩ : ByteArray).size = ⟨#[50, 58, 97, 98, 44]⟩ from rfl]
    rw [show (10 : Nat) = 9 + 1 from rfl, step_arm (by decide), get_b _ (by decide)]
    simp only
    rw [show (⟨#[50, 58, 97, 98, 44]⟩ : ByteArray).extract 5 (⟨#[50, 58, 97, 98, 44]⟩ : ByteArray).size = ⟨#[]⟩ from rfl]
    rfl
  rw [h]
theorem get_m : getR (BT.extract 0 4) = .error 2 := by
  have hc : cutP (BT.extract 0 4) = (⟨#[]⟩, 0, 2) := by rfl
  unfold getR getP
  rw [hc]
  rfl
theorem get_x : getR ⟨#[120]⟩ = .error 1 := by
  have hc : cutP ⟨#[120]⟩ = (⟨#[]⟩, 0, 1) := by rfl
  unfold getR getP
  rw [hc]
  rfl
end Go.Proofs.YtaacdggjkfmehaaGreatDoor
namespace Go.Proofs.YtaacdggjkfmehaaGreatDoor
open Go.RowKit
def AllV (r : Except Nat G) (w : World) (e : Ending) (w' : World) : Prop :=
  Below w.heap.size w w' ∧
  match r with
  | .error _ => e = .returned (.tuple #[.agg #[.int .i64 0, .int .i64 0, .string ⟨#[]⟩, .slice none 0 0], .int .i64 1])
  | .ok x => ∃ ad cap, e = .returned (.tuple #[.agg #[.int .i64 x.k, .int .i64 x.n, .string x.s, .slice ad x.l.len (x.l.len + cap)], .int .i64 0]) ∧ RepG w' (fun b => w.heap.size ≤ b) ad x.l
set_option maxRecDepth 100000 in
set_option maxHeartbeats 4000000 in
theorem all_bad (t : ByteArray) (w : World) (k n b er : Int) (s : ByteArray) (len : Nat) (hr : ¬ er = 0 ∨ ¬ b = (t.size : Int))
    (H : Calls Tryz.prog 94 #[.string t] (w.alloc (.cells #[.int .i64 0, .int .i64 0, .string ⟨#[]⟩, .slice none 0 0] 121)) fun e w' => (∃ ad cap, e = .returned (.tuple #[.agg #[.int .i64 k, .int .i64 n, .string s, .slice ad len cap], .int .i64 b, .int .i64 er])) ∧ Below (w.alloc (.cells #[.int .i64 0, .int .i64 0, .string ⟨#[]⟩, .slice none 0 0] 121)).heap.size (w.alloc (.cells #[.int .i64 0, .int .i64 0, .string ⟨#[]⟩, .slice none 0 0] 121)) w') :
    Calls Tryz.prog 80 #[.string t] w fun e w' => e = .returned (.tuple #[.agg #[.int .i64 0, .int .i64 0, .string ⟨#[]⟩, .slice none 0 0], .int .i64 1]) ∧ Below w.heap.size w w' := by
  have HB0 : Hid (Below w.heap.size w (w.alloc (.cells #[.int .i64 0, .int .i64 0, .string ⟨#[]⟩, .slice none 0 0] 121))) := Lib.hid ((Below.refl _ _).alloc (Nat.le_refl _) _)
  have H' := Lib.hid H
  clear H
  by_cases he : er = 0
  · subst he
    have hb : (b != (t.size : Int)) = true := by rw [bne_iff_ne]; rcases hr with h | h; exact absurd rfl h; exact h
    clear hr
    go_enter Tryz.func80, Tryz.ntmps80
    go_wp2_with fail
    refine H'.out.mono ?_
    rintro _ w2 ⟨⟨ad, cap, rfl⟩, hb2⟩
    have hlt : w.heap.size < w2.heap.size := by have := hb2.size; simp at this; omega
    have c0 : w2.cell? ⟨w.heap.size, 0, none⟩ = some (.int .i64 0) := by rw [hb2.cell (by simp)]; go_simp
    have z0 : w2.frozen? ⟨w.heap.size, 0, none⟩ = false := by rw [hb2.frozen (by simp)]; go_simp
    have c1 : w2.cell? ⟨w.heap.size, 1, none⟩ = some (.int .i64 0) := by rw [hb2.cell (by simp)]; go_simp
    have z1 : w2.frozen? ⟨w.heap.size, 1, none⟩ = false := by rw [hb2.frozen (by simp)]; go_simp
    have c2 : w2.cell? ⟨w.heap.size, 2, none⟩ = some (.string ⟨#[]⟩) := by rw [hb2.cell (by simp)]; go_simp
    have z2 : w2.frozen? ⟨w.heap.size, 2, none⟩ = false := by rw [hb2.frozen (by simp)]; go_simp
    have c3 : w2.cell? ⟨w.heap.size, 3, none⟩ = some (.slice none 0 0) := by rw [hb2.cell (by simp)]; go_simp
    have z3 : w2.frozen? ⟨w.heap.size, 3, none⟩ = false := by rw [hb2.frozen (by simp)]; go_simp
    have HB2 := Lib.hid (HB0.out.trans (hb2.mono HB0.out.size))
    have hne : ¬ w2.heap.size = w.heap.size := by omega
    have hne' : ¬ w.heap.size = w2.heap.size := by omega
    clear hb2
    go_wp2_with fail
    exact bodyPost_ret (v := .tuple #[.agg #[.int .i64 0, .int .i64 0, .string ⟨#[]⟩, .slice none 0 0], .int .i64 1]) (by simp [results, Tryz.results80, go_sem, c0, c1, c2, c3, hlt]) rfl ⟨rfl, (((((HB2.out.setCell (by simp) _).setCell (by simp) _).setCell (by simp) _).setCell (by simp) _).alloc (by simp; omega) _)⟩
  · have hb : (er != 0) = true := by rw [bne_iff_ne]; exact he
    clear hr he
    go_enter Tryz.func80, Tryz.ntmps80
    go_wp2_with fail
    refine H'.out.mono ?_
    rintro _ w2 ⟨⟨ad, cap, rfl⟩, hb2⟩
    have hlt : w.heap.size < w2.heap.size := by have := hb2.size; simp at this; omega
    have c0 : w2.cell? ⟨w.heap.size, 0, none⟩ = some (.int .i64 0) := by rw [hb2.cell (by simp)]; go_simp
    have z0 : w2.frozen? ⟨w.heap.size, 0, none⟩ = false := by rw [hb2.frozen (by simp)]; go_simp
    have c1 : w2.cell? ⟨w.heap.size, 1, none⟩ = some (.int .i64 0) := by rw [hb2.cell (by simp)]; go_simp
    have z1 : w2.frozen? ⟨w.heap.size, 1, none⟩ = false := by rw [hb2.frozen (by simp)]; go_simp
    have c2 : w2.cell? ⟨w.heap.size, 2, none⟩ = some (.string ⟨#[]⟩) := by rw [hb2.cell (by simp)]; go_simp
    have z2 : w2.frozen? ⟨w.heap.size, 2, none⟩ = false := by rw [hb2.frozen (by simp)]; go_simp
    have c3 : w2.cell? ⟨w.heap.size, 3, none⟩ = some (.slice none 0 0) := by rw [hb2.cell (by simp)]; go_simp
    have z3 : w2.frozen? ⟨w.heap.size, 3, none⟩ = false := by rw [hb2.frozen (by simp)]; go_simp
    have HB2 := Lib.hid (HB0.out.trans (hb2.mono HB0.out.size))
    have hne : ¬ w2.heap.size = w.heap.size := by omega
    have hne' : ¬ w.heap.size = w2.heap.size := by omega
    clear hb2
    go_wp2_with fail
    exact bodyPost_ret (v := .tuple #[.agg #[.int .i64 0, .int .i64 0, .string ⟨#[]⟩, .slice none 0 0], .int .i64 1]) (by simp [results, Tryz.results80, go_sem, c0, c1, c2, c3, hlt]) rfl ⟨rfl, (((((HB2.out.setCell (by simp) _).setCell (by simp) _).setCell (by simp) _).setCell (by simp) _).alloc (by simp; omega) _)⟩
set_option maxRecDepth 100000 in
set_option maxHeartbeats 4000000 in
theorem all_good (t : ByteArray) (w : World) (k n b : Int) (s : ByteArray) (len : Nat) (hb : b = (t.size : Int)) (P : Option Addr → Nat → World → Prop)
    (hP : ∀ ad cap w1 w2, P ad cap w1 → (∀ j, j ≠ w.heap.size → j < w1.heap.size → w2.heap[j]? = w1.heap[j]?) → P ad cap w2)
    (H : Calls Tryz.prog 94 #[.string t] (w.alloc (.cells #[.int .i64 0, .int .i64 0, .string ⟨#[]⟩, .slice none 0 0] 121)) fun e w' => (∃ ad cap, e = .returned (.tuple #[.agg #[.int .i64 k, .int .i64 n, .string s, .slice ad len cap], .int .i64 b, .int .i64 0]) ∧ P ad cap w') ∧ Below (w.alloc (.cells #[.int .i64 0, .int .i64 0, .string ⟨#[]⟩, .slice none 0 0] 121)).heap.size (w.alloc (.cells #[.int .i64 0, .int .i64 0, .string ⟨#[]⟩, .slice none 0 0] 121)) w') :
    Calls Tryz.prog 80 #[.string t] w fun e w' => (∃ ad cap, e = .returned (.tuple #[.agg #[.int .i64 k, .int .i64 n, .string s, .slice ad len cap], .int .i64 0]) ∧ P ad cap w') ∧ Below w.heap.size w w' := by
  have HB0 : Hid (Below w.heap.size w (w.alloc (.cells #[.int .i64 0, .int .i64 0, .string ⟨#[]⟩, .slice none 0 0] 121))) := Lib.hid ((Below.refl _ _).alloc (Nat.le_refl _) _)
  have H' := Lib.hid H
  have HP := Lib.hid hP
  clear H hP
  have hbe : (b != (t.size : Int)) = false := by rw [bne_eq_false_iff_eq]; exact hb
  clear hb
  go_enter Tryz.func80, Tryz.ntmps80
  go_wp2_with fail
  refine H'.out.mono ?_
  rintro _ w2 ⟨⟨ad, cap, rfl, hp2⟩, hb2⟩
  have HPP := Lib.hid hp2
  have hlt : w.heap.size < w2.heap.size := by have := hb2.size; simp at this; omega
  have c0 : w2.cell? ⟨w.heap.size, 0, none⟩ = some (.int .i64 0) := by rw [hb2.cell (by simp)]; go_simp
  have z0 : w2.frozen? ⟨w.heap.size, 0, none⟩ = false := by rw [hb2.frozen (by simp)]; go_simp
  have c1 : w2.cell? ⟨w.heap.size, 1, none⟩ = some (.int .i64 0) := by rw [hb2.cell (by simp)]; go_simp
  have z1 : w2.frozen? ⟨w.heap.size, 1, none⟩ = false := by rw [hb2.frozen (by simp)]; go_simp
  have c2 : w2.cell? ⟨w.heap.size, 2, none⟩ = some (.string ⟨#[]⟩) := by rw [hb2.cell (by simp)]; go_simp
  have z2 : w2.frozen? ⟨w.heap.size, 2, none⟩ = false := by rw [hb2.frozen (by simp)]; go_simp
  have c3 : w2.cell? ⟨w.heap.size, 3, none⟩ = some (.slice none 0 0) := by rw [hb2.cell (by simp)]; go_simp
  have z3 : w2.frozen? ⟨w.heap.size, 3, none⟩ = false := by rw [hb2.frozen (by simp)]; go_simp
  have HB2 := Lib.hid (HB0.out.trans (hb2.mono HB0.out.size))
  have hne : ¬ w2.heap.size = w.heap.size := by omega
  have hne' : ¬ w.heap.size = w2.heap.size := by omega
  clear hb2 hp2
  go_wp2_with fail
  have d0 : (((((w2.setCell ⟨w.heap.size, 0, none⟩ (.int .i64 k)).setCell ⟨w.heap.size, 1, none⟩ (.int .i64 n)).setCell ⟨w.heap.size, 2, none⟩ (.string s)).setCell ⟨w.heap.size, 3, none⟩ (.slice ad len cap)).alloc (.cells #[.int .i64 k, .int .i64 n, .string s, .slice ad len cap] 121)).cell? ⟨w.heap.size, 0, none⟩ = some (.int .i64 k) := by go_simp
  have d1 : (((((w2.setCell ⟨w.heap.size, 0, none⟩ (.int .i64 k)).setCell ⟨w.heap.size, 1, none⟩ (.int .i64 n)).setCell ⟨w.heap.size, 2, none⟩ (.string s)).setCell ⟨w.heap.size, 3, none⟩ (.slice ad len cap)).alloc (.cells #[.int .i64 k, .int .i64 n, .string s, .slice ad len cap] 121)).cell? ⟨w.heap.size, 1, none⟩ = some (.int .i64 n) := by go_simp
  have d2 : (((((w2.setCell ⟨w.heap.size, 0, none⟩ (.int .i64 k)).setCell ⟨w.heap.size, 1, none⟩ (.int .i64 n)).setCell ⟨w.heap.size, 2, none⟩ (.string s)).setCell ⟨w.heap.size, 3, none⟩ (.slice ad len cap)).alloc (.cells #[.int .i64 k, .int .i64 n, .string s, .slice ad len cap] 121)).cell? ⟨w.heap.size, 2, none⟩ = some (.string s) := by go_simp
  have d3 : (((((w2.setCell ⟨w.heap.size, 0, none⟩ (.int .i64 k)).setCell ⟨w.heap.size, 1, none⟩ (.int .i64 n)).setCell ⟨w.heap.size, 2, none⟩ (.string s)).setCell ⟨w.heap.size, 3, none⟩ (.slice ad len cap)).alloc (.cells #[.int .i64 k, .int .i64 n, .string s, .slice ad len cap] 121)).cell? ⟨w.heap.size, 3, none⟩ = some (.slice ad len cap) := by go_simp
  refine bodyPost_ret (v := .tuple #[.agg #[.int .i64 k, .int .i64 n, .string s, .slice ad len cap], .int .i64 0]) (by simp [results, Tryz.results80, go_sem, d0, d1, d2, d3]) rfl ⟨⟨ad, cap, rfl, ?_⟩, (((((HB2.out.setCell (by simp) _).setCell (by simp) _).setCell (by simp) _).setCell (by simp) _).alloc (by simp; omega) _)⟩
  refine HP.out _ _ _ _ HPP.out (fun j hj hl => ?_)
  rw [heap_alloc_old _ _ (by simpa using hl)]
  rw [heap_setCell_other _ _ _ _ hj, heap_setCell_other _ _ _ _ hj, heap_setCell_other _ _ _ _ hj, heap_setCell_other _ _ _ _ hj]
theorem All_p (t : ByteArray) (w : World) (hs : t.size ≤ 9223372036854775807) (hlib : LibAt w) :
    Calls Tryz.prog 80 #[.string t] w (AllV (allR t) w) := by
  have hb0 : Below w.heap.size w (w.alloc (.cells #[.int .i64 0, .int .i64 0, .string ⟨#[]⟩, .slice none 0 0] 121)) := (Below.refl _ _).alloc (Nat.le_refl _) _
  have H := Get_p t (w.alloc (.cells #[.int .i64 0, .int .i64 0, .string ⟨#[]⟩, .slice none 0 0] 121)) hs (hlib.below hb0)
  unfold allR
  have he : ∀ e, getR t = .error e → e = 1 ∨ e = 2 := fun e h => getP_err 6 t 6000 e h
  generalize getR t = r at *
  unfold GetV at H
  cases r with
  | error e =>
    have := he e rfl
    refine (all_bad t w 0 0 0 e ⟨#[]⟩ 0 (.inl (by omega)) (H.mono fun x w' h => ⟨⟨none, 0, h.2⟩, h.1⟩)).mono ?_
    rintro x w' ⟨rfl, h⟩
    exact ⟨h, rfl⟩
  | ok x =>
    simp only
    by_cases hb : x.b = t.size
    · rw [if_pos hb]
      refine (all_good t w x.k x.n x.b x.s x.l.len (by omega) (fun ad cap w' => x.l.len ≤ cap ∧ RepG w' (fun b => w.heap.size < b) ad x.l) (fun ad cap w1 w2 h hh => ⟨h.1, h.2.to (fun b hb hl => ⟨hb, hh b (by omega) hl⟩)⟩) (H.mono fun e w' ⟨h1, ad, cap, h2, h3⟩ => ⟨⟨ad, x.l.len + cap, h2, Nat.le_add_right _ _, h3.to (fun b hb _ => ⟨by simp at hb; omega, rfl⟩)⟩, h1⟩)).mono ?_
      rintro e w' ⟨⟨ad, cap, rfl, hc, hg⟩, h1⟩
      exact ⟨h1, ad, cap - x.l.len, by rw [Nat.add_sub_cancel' hc], hg.to (fun b hb _ => ⟨by omega, rfl⟩)⟩
    · rw [if_neg hb]
      refine (all_bad t w x.k x.n x.b 0 x.s x.l.len (.inr (by omega)) (H.mono fun e w' ⟨h1, ad, cap, h2, h3⟩ => ⟨⟨ad, _, h2⟩, h1⟩)).mono ?_
      rintro e w' ⟨rfl, h⟩
      exact ⟨h, rfl⟩
end Go.Proofs.YtaacdggjkfmehaaGreatDoor
