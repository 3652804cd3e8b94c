/-
  The contract of strconv.FormatInt at base 16, of numbers from 0 to 65,535.
-/
import Derived.Test.YtmamepmfbfinlaaGreatDoorGauss1
import Derived.LoopTactic
namespace Go.Proofs.YtmamepmfbfinlaaGreatDoor
open Go.RowKit

/-- A digit of base 16, as a byte. -/
def dg (k : Nat) : Int := if k < 10 then 48 + k else 87 + k

/-- The library's table, as far as it is read. -/
def TzAt (w : World) : Prop := w.cell? ⟨5, 15, none⟩ = some (.int .u8 4) ∧ 5 < w.heap.size

/-- 65 bytes in memory, from 0 on. -/
def Arr (w : World) (b : Nat) (f : Nat → Int) : Prop := (∀ i, i < 65 → w.cell? ⟨b, i, none⟩ = some (.int .u8 (f i)) ∧ w.frozen? ⟨b, i, none⟩ = false) ∧ b < w.heap.size

theorem Arr.set {w : World} {b : Nat} {f : Nat → Int} (h : Arr w b f) (j : Nat) (x : Int) (hj : j < 65) : Arr (w.setCell ⟨b, j, none⟩ (.int .u8 x)) b (fun i => if i = j then x else f i) := by
  refine ⟨fun i hi => ⟨?_, ?_⟩, by simpa using h.2⟩
  · have hc := (h.1 i hi).1
    by_cases e : i = j
    · subst e
      show _ = some (Value.int .u8 (if i = i then x else f i))
      rw [if_pos rfl]
      go_simp
    · show _ = some (Value.int .u8 (if i = j then x else f i))
      rw [if_neg e]
      go_simp
  · have := (h.1 i hi).2
    go_simp

theorem pow2_16 (w : World) : Calls Tryz.prog 110 #[.int .i64 16] w fun e w' => e = .returned (.bool true) ∧ w = w' := by
  have k1 : bits BinOp.and IntKind.i64 16 15 = 0 := by decide
  go_enter Tryz.func110, Tryz.ntmps110
  go_wp2
  go_ret
  exact ⟨rfl, rfl⟩

theorem tz64_16 (w : World) (ht : TzAt w) : Calls Tryz.prog 116 #[.int .u64 16] w fun e w' => e = .returned (.int .i64 4) ∧ w = w' := by
  obtain ⟨t0, t1⟩ := ht
  have k1 : IntKind.u64.wrap (bits BinOp.and IntKind.u64 16 (IntKind.u64.wrap (-16)) * 285870213051353865) / 288230376151711744 = 15 := by decide
  go_enter Tryz.func116, Tryz.ntmps116
  go_wp2
  go_ret
  exact ⟨rfl, rfl⟩

theorem tz_16 (w : World) (ht : TzAt w) : Calls Tryz.prog 111 #[.int .u64 16] w fun e w' => e = .returned (.int .i64 4) ∧ w = w' := by
  have H := Lib.hid (tz64_16 w ht)
  clear ht
  go_enter Tryz.func111, Tryz.ntmps111
  go_wp2_with fail
  refine H.out.mono ?_
  rintro e w' ⟨rfl, rfl⟩
  go_wp2_with fail
  go_ret
  exact ⟨rfl, rfl⟩

theorem TzAt.below {w w' : World} (h : TzAt w) (hb : Below w.heap.size w w') : TzAt w' :=
  ⟨by rw [hb.cell h.2]; exact h.1, Nat.lt_of_lt_of_le h.2 hb.size⟩

theorem and15 (m : Nat) (h : m < 65536) : bits BinOp.and IntKind.u64 (m : Int) 15 = ((m % 16 : Nat) : Int) := by
  have e := bits_and_u64_nat m 15 (by omega) (by omega)
  rw [show ((15 : Nat) : Int) = 15 from rfl] at e
  rw [e, show (15 : Nat) = 2 ^ 4 - 1 from rfl, Nat.and_two_pow_sub_one_eq_mod]

def Dig (n j m : Nat) (f : Nat → Int) : Prop :=
  ((j = 0 ∧ m = n) ∨ (j = 1 ∧ m = n / 16 ∧ 16 ≤ n) ∨ (j = 2 ∧ m = n / 256 ∧ 256 ≤ n) ∨ (j = 3 ∧ m = n / 4096 ∧ 4096 ≤ n)) ∧
  (0 < j → f 64 = dg (n % 16)) ∧ (1 < j → f 63 = dg (n / 16 % 16)) ∧ (2 < j → f 62 = dg (n / 256 % 16))

theorem Dig.step {n j m : Nat} {f : Nat → Int} (h : Dig n j m f) (hn : n < 65536) (hm : 16 ≤ m) : Dig n (j + 1) (m / 16) (fun i => if i = 64 - j then dg (m % 16) else f i) := by
  obtain ⟨h0, h1, h2, h3⟩ := h
  refine ⟨by omega, fun _ => ?_, fun _ => ?_, fun _ => ?_⟩
  · show (if 64 = 64 - j then dg (m % 16) else f 64) = _
    by_cases e : j = 0
    · rw [if_pos (by omega)]; congr 1; omega
    · rw [if_neg (by omega)]; exact h1 (by omega)
  · show (if 63 = 64 - j then dg (m % 16) else f 63) = _
    by_cases e : j = 1
    · rw [if_pos (by omega)]; congr 1; omega
    · rw [if_neg (by omega)]; exact h2 (by omega)
  · show (if 62 = 64 - j then dg (m % 16) else f 62) = _
    by_cases e : j = 2
    · rw [if_pos (by omega)]; congr 1; omega
    · rw [if_neg (by omega)]; exact h3 (by omega)

/-- What the loop keeps. -/
def FbRel (n : Nat) (w : World) (u i : Value) (wr : World) : Prop :=
  ∃ (j m : Nat) (f : Nat → Int), u = .int .u64 m ∧ i = .int .i64 (65 - j) ∧ Dig n j m f ∧ Arr wr w.heap.size f ∧ Below w.heap.size w wr

theorem dgix (k : Nat) (hk : k < 16) : ∀ w, (Instr.index 9 (.string ⟨#[48, 49, 50, 51, 52, 53, 54, 55, 56, 57, 97, 98, 99, 100, 101, 102, 103, 104, 105, 106, 107, 108, 109, 110, 111, 112, 113, 114, 115, 116, 117, 118, 119, 120, 121, 122]⟩) (.int .u64 k)).run Tryz.prog w = .ok (.int .u8 (dg k)) w := by
  intro w
  rcases k with _|_|_|_|_|_|_|_|_|_|_|_|_|_|_|_|k
  all_goals first | (exfalso; omega) | kernel_rfl

theorem dgb (d : Nat) (hd : d < 16) (h : d < (⟨#[48, 49, 50, 51, 52, 53, 54, 55, 56, 57, 97, 98, 99, 100, 101, 102, 103, 104, 105, 106, 107, 108, 109, 110, 111, 112, 113, 114, 115, 116, 117, 118, 119, 120, 121, 122]⟩ : ByteArray).size) :
    (((⟨#[48, 49, 50, 51, 52, 53, 54, 55, 56, 57, 97, 98, 99, 100, 101, 102, 103, 104, 105, 106, 107, 108, 109, 110, 111, 112, 113, 114, 115, 116, 117, 118, 119, 120, 121, 122]⟩ : ByteArray)[d]'h).toNat : Int) = dg d := by
  rcases d with _|_|_|_|_|_|_|_|_|_|_|_|_|_|_|_|d
  all_goals first | (exfalso; omega) | rfl

/-- Bytes as a text. -/
def strN (ns : List Int) : ByteArray := ⟨(ns.map fun x => UInt8.ofNat x.toNat).toArray⟩

theorem push_all (ns : List Int) (a : Array UInt8) : ns.foldl (fun r n => r.push (UInt8.ofNat n.toNat)) (⟨a⟩ : ByteArray) = ⟨a ++ (ns.map fun x => UInt8.ofNat x.toNat).toArray⟩ := by
  induction ns generalizing a with
  | nil => simp
  | cons n ns ih =>
    rw [List.foldl_cons]
    show ns.foldl _ (⟨a.push _⟩ : ByteArray) = _
    rw [ih]
    simp

/-- A text out of bytes in memory. -/
theorem conv_bytes (w : World) (b o c : Nat) (ns : List Int) (h : ∀ i v, (ns.map (Value.int .u8))[i]? = some v → w.cell? ⟨b, o + i, none⟩ = some v) :
    (convert 56 9 (.slice (some ⟨b, o, none⟩) ns.length c)).run Tryz.prog w = .ok (.string (strN ns)) w := by
  rw [run_convert_bytes_string w 56 9 5 _ _ _ Tryz.underlying56 Tryz.underlying5 Tryz.underlying9]
  have hl := run_loadCells_list (P := Tryz.prog) (w := w) ⟨b, o, none⟩ (ns.map (Value.int .u8)) (fun i v hv => by
    have h' := h i v hv
    simp only [Addr.add]
    split
    · rename_i e; subst e; exact h'
    · exact h')
  rw [List.length_map] at hl
  rw [run_bytesToString w _ _ _ ns hl]
  rw [show ByteArray.empty = (⟨#[]⟩ : ByteArray) from rfl, push_all]
  simp [strN]

/-- The end of an array of 65 bytes. -/
theorem sl65 (b l : Nat) (hl : l ≤ 64) (w : World) :
    (Instr.sliceAt 147 (.pointer (some ⟨b, 0, none⟩)) (some (.int .i64 l)) none none).run Tryz.prog w = .ok (.slice (some ⟨b, l, none⟩) (65 - l) (65 - l)) w := by
  have hlen : Tryz.prog.arrayLen 147 = 65 := by kernel_rfl
  have hs : (sizeOf (Tryz.prog.elem 147)).run Tryz.prog w = .ok 1 w := by kernel_rfl
  rw [run_sliceAt_array_l w 147 ⟨b, 0, none⟩ (by kernel_rfl) .i64 l (by omega) (by rw [hlen]; omega), hs]
  show Result.ok (slicedAt ⟨b, 0, none⟩ _ _ _ _) w = _
  rw [hlen]
  unfold slicedAt
  rw [if_neg (by omega)]
  simp [Addr.add]
  omega

/-- The digits of a number below 65,536. -/
def hexL (n : Nat) : List Int :=
  if n < 16 then [dg n] else if n < 256 then [dg (n / 16), dg (n % 16)] else if n < 4096 then [dg (n / 256), dg (n / 16 % 16), dg (n % 16)]
  else [dg (n / 4096), dg (n / 256 % 16), dg (n / 16 % 16), dg (n % 16)]

theorem hex_cells {n j m : Nat} {f : Nat → Int} {w : World} {b : Nat} (hn : n < 65536) (hm : m < 16) (h : Dig n j m f) (ha : Arr w b (fun i => if i = 64 - j then dg m else f i)) :
    (hexL n).length = j + 1 ∧ ∀ i v, ((hexL n).map (Value.int .u8))[i]? = some v → w.cell? ⟨b, 64 - j + i, none⟩ = some v := by
  obtain ⟨h0, h1, h2, h3⟩ := h
  have c0 := (ha.1 64 (by omega)).1
  have c1 := (ha.1 63 (by omega)).1
  have c2 := (ha.1 62 (by omega)).1
  have c3 := (ha.1 61 (by omega)).1
  rcases h0 with ⟨rfl, rfl⟩ | ⟨rfl, rfl, hj⟩ | ⟨rfl, rfl, hj⟩ | ⟨rfl, rfl, hj⟩
  · have e : hexL m = [dg m] := by unfold hexL; rw [if_pos hm]
    rw [e]
    refine ⟨rfl, fun i v hv => ?_⟩
    rcases i with _|i
    · simp at hv; subst hv; simpa using c0
    · simp at hv
  · have e : hexL n = [dg (n / 16), dg (n % 16)] := by unfold hexL; rw [if_neg (by omega), if_pos (by omega)]
    have g1 := h1 (by omega)
    rw [e]
    refine ⟨rfl, fun i v hv => ?_⟩
    rcases i with _|_|i
    · simp at hv; subst hv; simpa using c1
    · simp at hv; subst hv; simpa [g1] using c0
    · simp at hv
  · have e : hexL n = [dg (n / 256), dg (n / 16 % 16), dg (n % 16)] := by unfold hexL; rw [if_neg (by omega), if_neg (by omega), if_pos (by omega)]
    have g1 := h1 (by omega)
    have g2 := h2 (by omega)
    rw [e]
    refine ⟨rfl, fun i v hv => ?_⟩
    rcases i with _|_|_|i
    · simp at hv; subst hv; simpa using c2
    · simp at hv; subst hv; simpa [g2] using c1
    · simp at hv; subst hv; simpa [g1] using c0
    · simp at hv
  · have e : hexL n = [dg (n / 4096), dg (n / 256 % 16), dg (n / 16 % 16), dg (n % 16)] := by unfold hexL; rw [if_neg (by omega), if_neg (by omega), if_neg (by omega)]
    have g1 := h1 (by omega)
    have g2 := h2 (by omega)
    have g3 := h3 (by omega)
    rw [e]
    refine ⟨rfl, fun i v hv => ?_⟩
    rcases i with _|_|_|_|i
    · simp at hv; subst hv; simpa using c3
    · simp at hv; subst hv; simpa [g3] using c2
    · simp at hv; subst hv; simpa [g2] using c1
    · simp at hv; subst hv; simpa [g1] using c0
    · simp at hv

set_option maxRecDepth 100000 in
set_option maxHeartbeats 400000 in
theorem fbits16 (n : Nat) (hn : n < 65536) (w : World) (ht : TzAt w) :
    Calls Tryz.prog 101 #[.slice none 0 0, .int .u64 n, .int .i64 16, .bool false, .bool false] w fun e w' => e = .returned (.tuple #[.slice none 0 0, .string (strN (hexL n))]) ∧ Below w.heap.size w w' := by
  have HT := Lib.hid (ht.below ((Below.refl _ _).alloc (Nat.le_refl _) (.cells (Array.replicate 65 (.int .u8 0)) 147)))
  clear ht
  have hzero : ∀ w, (zeroValue 147).run Tryz.prog w = .ok (.agg (Array.replicate 65 (.int .u8 0))) w := fun _ => by kernel_rfl
  go_enter Tryz.func101, Tryz.ntmps101
  go_wp2_with fail
  refine (pow2_16 _).mono ?_
  rintro e w' ⟨rfl, rfl⟩
  go_wp2_with fail
  refine (tz_16 _ HT.out).mono ?_
  rintro e w' ⟨rfl, rfl⟩
  go_wp2_with fail
  go_loopw [1, 13] (fun u i wr => FbRel n w u i wr) (fun u _ _ => (intOf u).toNat)
  case atStart =>
    refine ⟨0, n, fun _ => 0, rfl, rfl, ⟨Or.inl ⟨rfl, rfl⟩, by omega, by omega, by omega⟩, ⟨fun i hi => ⟨?_, ?_⟩, by simp⟩, (Below.refl _ _).alloc (Nat.le_refl _) _⟩
    · go_simp
    · go_simp
  case round =>
    obtain ⟨j, m, f, rfl, rfl, hd, ha, hB⟩ := hrel
    have hm : m < 65536 := by have := hd.1; omega
    by_cases hlt : 16 ≤ m
    · have hj : j ≤ 2 := by have := hd.1; omega
      have HD := Lib.hid (hd.step hn hlt)
      have HA := Lib.hid ha
      have c0 := (ha.1 (65 - j - 1) (by omega)).1
      have z0 := (ha.1 (65 - j - 1) (by omega)).2
      clear hd ha
      obtain ⟨d, hdm⟩ : ∃ d, m % 16 = d := ⟨_, rfl⟩
      have hd16 : d < 16 := by omega
      have k1 := and15 m hm
      rw [hdm] at k1 HD
      have hb0 : (0 : Int) ≤ (d : Int) ∧ (d : Int) < 36 := by omega
      clear hdm
      have hlt' : (16 : Int) ≤ (m : Int) := by omega
      go_wp2_with fail
      rw [dgb d hd16]
      refine ⟨⟨j + 1, m / 16, _, by go_num, ?_, HD.out, ?_, hB.setCell (by simp) _⟩, by simp [intOf]; omega⟩
      · rw [show (65 : Int) - (j : Int) - 1 = 65 - ((j + 1 : Nat) : Int) from by omega]
      · rw [show 65 - j - 1 = 64 - j from by omega]
        exact HA.out.set (64 - j) _ (by omega)
    · have hj : j ≤ 3 := by have := hd.1; omega
      have c0 := (ha.1 (65 - j - 1) (by omega)).1
      have z0 := (ha.1 (65 - j - 1) (by omega)).2
      have HA := Lib.hid (ha.set (64 - j) (dg m) (by omega))
      have HC := Lib.hid (hex_cells hn (by omega) hd (ha.set (64 - j) (dg m) (by omega)))
      clear hd ha
      have hb0 : (0 : Int) ≤ (m : Int) ∧ (m : Int) < 36 := by omega
      have hsl : ∀ w0, (Instr.sliceAt 147 (.pointer (some ⟨w.heap.size, 0, none⟩)) (some (.int .i64 (65 - (j : Int) - 1))) none none).run Tryz.prog w0 = .ok (.slice (some ⟨w.heap.size, 64 - j, none⟩) (hexL n).length (j + 1)) w0 := by
        intro w0
        rw [show (65 : Int) - (j : Int) - 1 = ((64 - j : Nat) : Int) from by omega, sl65 _ _ (by omega), HC.out.1, show 65 - (64 - j) = j + 1 from by omega]
      have hcv := conv_bytes (wr.setCell ⟨w.heap.size, 64 - j, none⟩ (.int .u8 (dg m))) w.heap.size (64 - j) (j + 1) (hexL n) HC.out.2
      rw [← dgb m (by omega) (by show m < 36; omega), show 64 - j = 65 - j - 1 from by omega] at hcv
      rw [show 64 - j = 65 - j - 1 from by omega] at hsl
      go_wp2_with fail
      exact bodyPost_ret (v := .tuple #[.slice none 0 0, .string (strN (hexL n))]) (by simp [results, Tryz.results101, go_sem]) rfl
        ⟨rfl, hB.setCell (by simp) _⟩


theorem ifmt16 (n : Nat) (hn : n < 65536) (w : World) (ht : TzAt w) :
    Calls Tryz.prog 85 #[.int .i64 n, .int .i64 16] w fun e w' => e = .returned (.string (strN (hexL n))) ∧ Below w.heap.size w w' := by
  have H := Lib.hid (fbits16 n hn w ht)
  clear ht
  have hw : IntKind.u64.wrap (n : Int) = (n : Int) := by rw [IntKind.wrap_u64]; omega
  have h0 : (0 : Int) ≤ (n : Int) := by omega
  go_enter Tryz.func85, Tryz.ntmps85
  go_wp2_with fail
  refine H.out.mono ?_
  rintro e w' ⟨rfl, hb⟩
  go_wp2_with fail
  go_ret
  exact ⟨rfl, hb⟩

theorem fmt16 (n : Nat) (hn : n < 65536) (w : World) (ht : TzAt w) :
    Calls Tryz.prog 73 #[.int .i64 n, .int .i64 16] w fun e w' => e = .returned (.string (strN (hexL n))) ∧ Below w.heap.size w w' := by
  have H := Lib.hid (ifmt16 n hn w ht)
  clear ht
  go_enter Tryz.func73, Tryz.ntmps73
  go_wp2_with fail
  refine H.out.mono ?_
  rintro e w' ⟨rfl, hb⟩
  go_wp2_with fail
  go_ret
  exact ⟨rfl, hb⟩

/-- Four digits. -/
def fourL (n : Nat) : List Int := [dg (n / 4096 % 16), dg (n / 256 % 16), dg (n / 16 % 16), dg (n % 16)]

theorem hexL_le (n : Nat) : (hexL n).length ≤ 4 ∧ 1 ≤ (hexL n).length := by
  unfold hexL
  split
  · simp
  · split
    · simp
    · split <;> simp

theorem dg_zero : dg 0 = 48 := rfl

theorem four_pad (n : Nat) (hn : n < 65536) : List.replicate (4 - (hexL n).length) 48 ++ hexL n = fourL n := by
  unfold hexL fourL
  split
  · have h1 : n / 4096 % 16 = 0 := by omega
    have h2 : n / 256 % 16 = 0 := by omega
    have h3 : n / 16 % 16 = 0 := by omega
    have h4 : n % 16 = n := by omega
    rw [h1, h2, h3, h4, dg_zero]; rfl
  · split
    · have h1 : n / 4096 % 16 = 0 := by omega
      have h2 : n / 256 % 16 = 0 := by omega
      have h3 : n / 16 % 16 = n / 16 := by omega
      rw [h1, h2, h3, dg_zero]; rfl
    · split
      · have h1 : n / 4096 % 16 = 0 := by omega
        have h2 : n / 256 % 16 = n / 256 := by omega
        rw [h1, h2, dg_zero]; rfl
      · have h1 : n / 4096 % 16 = n / 4096 := by omega
        rw [h1]; rfl

end Go.Proofs.YtmamepmfbfinlaaGreatDoor
