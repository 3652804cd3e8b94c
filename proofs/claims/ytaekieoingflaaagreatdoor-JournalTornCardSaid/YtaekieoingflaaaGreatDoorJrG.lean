/-
  The reference's leaf; rows of texts that grow.
-/
import Derived.Test.YtaekieoingflaaaGreatDoorJrF
import Derived.Test.YtaekieoingflaaaGreatDoorRef2
import Derived.Test.YtaekieoingflaaaGreatDoorHex1
import Derived.Test.YtaekieoingflaaaGreatDoorDec
import Derived.Deep.RegionHeld3
import Derived.Maps.AppendAt
namespace Go.Proofs.YtaekieoingflaaaGreatDoor
open Go.RowKit

theorem ret_str2 {a b : ByteArray} (h : a = b) : Ending.returned (.string a) = .returned (.string b) := by rw [h]

theorem conv_one (w : World) (b c : Nat) (x : Int) (h : w.cell? ⟨b, 0, none⟩ = some (.int .u8 x)) :
    (convert 50 9 (.slice (some ⟨b, 0, none⟩) 1 c)).run Tryz.prog w = .ok (.string ⟨#[UInt8.ofNat x.toNat]⟩) w := by
  have := conv_bytes w b 0 c [x] (by
    intro i v hv
    rcases i with _|i
    · simp at hv; subst hv; simpa using h
    · simp at hv)
  exact this

set_option maxRecDepth 100000 in
set_option maxHeartbeats 1000000 in
theorem rdigits (u : Nat) (hu : u < 18446744073709551616) (w : World) :
    Calls Tryz.prog 88 #[.int .u64 u] w fun e w' => e = .returned (.string ⟨(Lib.decDigits u).toArray⟩) ∧ Below w.heap.size w w' := by
  obtain ⟨D, hD⟩ : ∃ D, Lib.decDigits u = D := ⟨_, rfl⟩
  have hDl : D.length ≤ 20 := by rw [← hD, Lib.decDigits_length]; exact Lib.nDigits_le20 u hu
  rw [hD]
  have HD := Lib.hid hD
  clear hD
  go_enter Tryz.func88, Tryz.ntmps88
  go_wp2_with fail
  go_loopw [0, 3] (fun x s wr => ∃ (v : Nat) (S : ByteArray), x = .int .u64 v ∧ s = .string S ∧ Hid (v < 18446744073709551616) ∧ Hid (Lib.decDigits v ++ S.data.toList = D) ∧ Below w.heap.size w wr) (fun x _ _ => (intOf x).toNat)
  case atStart =>
    exact ⟨u, ⟨#[]⟩, rfl, rfl, Lib.hid hu, Lib.hid (by rw [List.append_nil]; exact HD.out), Below.refl _ _⟩
  case round =>
    obtain ⟨v, S, rfl, rfl, HV, HS, hb⟩ := hrel
    have hsz : w.heap.size ≤ wr.heap.size := hb.size
    have hSl : S.size + 1 ≤ 20 := by
      have h1 := HS.out
      have h2 := Lib.nDigits_pos v
      rw [← h1, List.length_append, Lib.decDigits_length] at hDl
      have h3 : S.data.toList.length = S.size := rfl
      omega
    have hcv := conv_one (wr.alloc (.cells #[.int .u8 (48 + (v : Int) % 10)] 5)) wr.heap.size 1 (48 + (v : Int) % 10) (by go_simp)
    rw [show (48 + (v : Int) % 10).toNat = 48 + v % 10 by omega] at hcv
    obtain ⟨c, hc⟩ : ∃ c : UInt8, UInt8.ofNat (48 + v % 10) = c := ⟨_, rfl⟩
    rw [hc] at hcv
    have HC := Lib.hid hc
    have z1 : ¬ 9223372036854775807 < 1 + S.size := by omega
    have HB := Lib.hid (hb.alloc hsz (.cells #[.int .u8 (48 + (v : Int) % 10)] 5))
    by_cases h10 : v < 10
    · have HE : Hid (((⟨#[c]⟩ : ByteArray) ++ S) = ⟨D.toArray⟩) := Lib.hid (by
        apply ByteArray.ext
        apply Array.ext'
        rw [ByteArray.data_append, Array.toList_append, List.toList_toArray, ← HS.out, Lib.decDigits, dif_pos h10, ← hc, Nat.mod_eq_of_lt h10])
      have hq0 : (v : Int) / 10 = 0 := by omega
      clear h10 hb hc
      go_wp2_with fail
      go_ret
      exact ⟨ret_str2 HE.out, HB.out⟩
    · have HE : Hid (Lib.decDigits (v / 10) ++ ((⟨#[c]⟩ : ByteArray) ++ S).data.toList = D) := Lib.hid (by
        rw [ByteArray.data_append, Array.toList_append, ← HS.out, Lib.decDigits.eq_def v, dif_neg h10, List.append_assoc, hc])
      have HV2 : Hid (v / 10 < 18446744073709551616 ∧ v / 10 < v) := Lib.hid (by have := HV.out; omega)
      have hq5 : IntKind.u64.wrap ((v : Int) / 10) = (v : Int) / 10 := IntWalk.u64_in _ (by have := HV.out; omega)
      have hq1 : ¬ ((v : Int) / 10 = 0) := by omega
      have hq2 : (((v : Int) / 10) == 0) = false := by rw [beq_eq_false_iff_ne]; exact hq1
      clear hb hc h10
      go_wp2_with fail
      go_roundw
      case rel => exact ⟨v / 10, _, by go_num, rfl, Lib.hid HV2.out.1, Lib.hid HE.out, HB.out⟩
      case measure =>
        have := HV2.out.2
        simp [intOf]; omega

end Go.Proofs.YtaekieoingflaaaGreatDoor
namespace Go.Proofs.YtaekieoingflaaaGreatDoor
open Go.RowKit

set_option maxRecDepth 100000 in
set_option maxHeartbeats 1000000 in
theorem rDigits (n : Int) (h0 : -9223372036854775808 ≤ n) (h1 : n ≤ 9223372036854775807) (w : World) :
    Calls Tryz.prog 74 #[.int .i64 n] w fun e w' => e = .returned (.string (decS n)) ∧ Below w.heap.size w w' := by
  by_cases hn : n < 0
  · obtain ⟨u, hu⟩ : ∃ u : Nat, (u : Int) = -n := ⟨(-n).toNat, by omega⟩
    have HR := Lib.hid (rdigits u (by omega))
    have e : decS n = (⟨#[45]⟩ : ByteArray) ++ ⟨(Lib.decDigits u).toArray⟩ := by
      apply ByteArray.ext
      apply Array.ext'
      rw [decS_list, ByteArray.data_append, Array.toList_append]
      unfold Lib.itoa
      rw [if_pos hn, show n.natAbs = u by omega]
      simp
    rw [e]
    have hsz : (⟨(Lib.decDigits u).toArray⟩ : ByteArray).size ≤ 20 := by
      show (Lib.decDigits u).toArray.size ≤ 20
      rw [List.size_toArray, Lib.decDigits_length]
      exact Lib.nDigits_le20 u (by omega)
    generalize (⟨(Lib.decDigits u).toArray⟩ : ByteArray) = D at *
    have q1 : IntKind.i64.wrap (n + 1) = n + 1 := IntWalk.i64_in _ (by omega)
    have q2 : IntKind.i64.wrap (-(n + 1)) = -(n + 1) := IntWalk.i64_in _ (by omega)
    have q3 : IntKind.u64.wrap (-(n + 1)) = -(n + 1) := IntWalk.u64_in _ (by omega)
    have q4 : IntKind.u64.wrap (-(n + 1) + 1) = u := by rw [show -(n + 1) + 1 = (u : Int) by omega]; exact IntWalk.u64_in _ (by omega)
    clear e hu
    go_enter Tryz.func74, Tryz.ntmps74
    go_wp2_with fail
    refine (HR.out _).mono ?_
    rintro _ w1 ⟨rfl, hb1⟩
    have z1 : ¬ 9223372036854775807 < 1 + D.size := by omega
    go_wp2_with fail
    go_ret
    exact ⟨rfl, hb1⟩
  · obtain ⟨u, rfl⟩ : ∃ u : Nat, n = u := ⟨n.toNat, by omega⟩
    have HR := Lib.hid (rdigits u (by omega))
    have e : decS (u : Int) = ⟨(Lib.decDigits u).toArray⟩ := by
      unfold decS
      rw [Lib.itoa_nonneg]
    rw [e]
    generalize (⟨(Lib.decDigits u).toArray⟩ : ByteArray) = D at *
    have q3 : IntKind.u64.wrap (u : Int) = u := IntWalk.u64_in _ (by omega)
    clear e
    go_enter Tryz.func74, Tryz.ntmps74
    go_wp2_with fail
    refine (HR.out _).mono ?_
    rintro _ w1 ⟨rfl, hb1⟩
    go_wp2_with fail
    go_ret
    exact ⟨rfl, hb1⟩

end Go.Proofs.YtaekieoingflaaaGreatDoor
namespace Go.Proofs.YtaekieoingflaaaGreatDoor
open Go.RowKit Go.Maps Go.Proofs.MapD Go.Proofs.Chest Go.Proofs.Flo Go.Proofs.Cpl

theorem frame_eq (t e : ByteArray) (h : t.size ≤ 9999999) : ((decS (t.size : Int) ++ ⟨#[58]⟩) ++ t) ++ e = frameS t e := by
  unfold frameS
  rw [if_pos h]

set_option maxRecDepth 100000 in
set_option maxHeartbeats 4000000 in
theorem rstr_p (s : ByteArray) (w : World) :
    Calls Tryz.prog 57 #[.string s] w fun e w' => e = .returned (.agg #[.int .i64 2, .int .i64 0, .string s, .slice none 0 0]) ∧ Below w.heap.size w w' := by
  go_enter Tryz.func57, Tryz.ntmps57
  go_wp2_with fail
  refine bodyPost_ret (v := .agg #[.int .i64 2, .int .i64 0, .string s, .slice none 0 0]) (by simp [results, Tryz.results57, go_sem]) rfl ⟨rfl, (Below.refl _ _).alloc (Nat.le_refl _) _⟩

set_option maxRecDepth 100000 in
set_option maxHeartbeats 4000000 in
theorem rputv_p (s : ByteArray) (hs : s.size ≤ 400000) (w : World) :
    Calls Tryz.prog 56 #[.agg #[.int .i64 2, .int .i64 0, .string s, .slice none 0 0]] w fun e w' => e = .returned (.string (frameS s ⟨#[44]⟩)) ∧ Below w.heap.size w w' := by
  have R := Lib.hid (rDigits (s.size : Int) (by omega) (by omega))
  have hd : (decS (s.size : Int)).size ≤ 21 := decS_size _ (by omega) (by omega)
  have hf := frame_eq s ⟨#[44]⟩ (by omega)
  rw [← hf]
  clear hf
  generalize decS (s.size : Int) = D at *
  have z1 : ¬ 9223372036854775807 < D.size + 1 := by omega
  go_enter Tryz.func56, Tryz.ntmps56
  go_wp2_with fail
  refine (R.out _).mono ?_
  rintro _ w1 ⟨rfl, hb1⟩
  have HB1 := Lib.hid hb1
  have q2 : w1.cell? ⟨w.heap.size, 2, none⟩ = some (.string s) := by rw [hb1.cell (by simp)]; go_simp
  clear hb1
  go_wp2_with fail
  go_ret
  exact ⟨rfl, ((Below.refl _ _).alloc (Nat.le_refl _) _).trans (HB1.out.mono (by simp))⟩

set_option maxRecDepth 100000 in
set_option maxHeartbeats 4000000 in
theorem rleaf_p (s : ByteArray) (hs : s.size ≤ 400000) (w : World) :
    Calls Tryz.prog 22 #[.string s] w fun e w' => e = .returned (.string (leafS s)) ∧ Below w.heap.size w w' := by
  rw [leafS_eq hs]
  have hs' : ¬ (400000 : Int) < (s.size : Int) := by omega
  have RM := Lib.hid (rmark_str s _ rfl (by unfold maxLen; omega))
  have hok : Ok (gon (0, 1) s.data.toList) := ok_gon ok_i _
  have hj : ¬ 9223372036854775807 < (markS s).size + (frameS s ⟨#[44]⟩).size := by
    have h1 := markS_size s
    have h2 := frameS_size s ⟨#[44]⟩
    have h3 : (⟨#[44]⟩ : ByteArray).size = 1 := rfl
    omega
  have RT := Lib.hid (rtext _ hok)
  have RP := Lib.hid (rputv_p s hs)
  have hmk : markS s = strN (textL (gon (0, 1) s.data.toList)) := rfl
  rw [← hmk] at RT
  generalize markS s = K at *
  generalize frameS s ⟨#[44]⟩ = B at *
  generalize gon (0, 1) s.data.toList = G at *
  clear hmk
  go_enter Tryz.func22, Tryz.ntmps22
  go_wp2_with fail
  refine (RM.out _).mono ?_
  rintro _ w1 ⟨rfl, hb1⟩
  go_wp2_with fail
  refine (RT.out _).mono ?_
  rintro _ w2 ⟨rfl, hb2⟩
  go_wp2_with fail
  refine (rstr_p s _).mono ?_
  rintro _ w3 ⟨rfl, hb3⟩
  go_wp2_with fail
  refine (RP.out _).mono ?_
  rintro _ w4 ⟨rfl, hb4⟩
  go_wp2_with fail
  go_ret
  have s1 := hb1.size
  have s2 := hb2.size
  have s3 := hb3.size
  exact ⟨rfl, ((hb1.trans (hb2.mono s1)).trans (hb3.mono (by omega))).trans (hb4.mono (by omega))⟩

/-- A row of texts at the front: one more text. -/
theorem sp_append {w0 w : World} {v : Value} {l : List ByteArray} {L : List It} (h : Sp w0 w (rc v l :: L)) :
    Recs w v l ∧ ∀ v' w' s, Recs w' v' (l ++ [s]) → w.grownBy w' (rowOf v) → (rowOf v' = rowOf v ∨ rowOf v' = some w.heap.size) → Sp w0 w' (rc v' (l ++ [s]) :: L) := by
  obtain ⟨F, ⟨hr, rfl⟩, _, k⟩ := h.turn
  refine ⟨hr, fun v' w' s h1 h2 h3 => k (rc v' (l ++ [s])) w' ⟨(rowOf v').toList, ⟨h1, rfl⟩, fun i hi => ?_, (Only.refl _ _).grown h2 (fun i hi => .inl (by simp [hi]))⟩⟩
  rcases h3 with h3 | h3
  · rw [h3] at hi
    exact .inl hi
  · rw [h3] at hi
    have := Option.mem_toList.1 hi
    simp at this
    exact .inr (by omega)

theorem Sp.of_below {w0 w : World} (h : Below w0.heap.size w0 w) : Sp w0 w [] := ⟨⟨[], rfl, by simp⟩, h⟩

theorem Sp.recs {w0 w : World} {v : Value} {l : List ByteArray} {L : List It} (h : Sp w0 w (rc v l :: L)) : Recs w v l := by
  obtain ⟨F, h1, _⟩ := h.get
  exact h1

theorem sp_nil {w0 w : World} {L : List It} (h : Sp w0 w L) : Sp w0 w (rc (.slice none 0 0) [] :: L) :=
  h.new (Below.refl _ _) ⟨[], ⟨.nil _, rfl⟩, by simp⟩

end Go.Proofs.YtaekieoingflaaaGreatDoor
namespace Go.Proofs.YtaekieoingflaaaGreatDoor
open Go.RowKit

/-- A slice cut to so many. -/
def toLen (v : Value) (n : Nat) : Value := match v with | .slice ad _ cap => .slice ad n cap | v => v

theorem rowOf_toLen (v : Value) (n : Nat) : rowOf (toLen v n) = rowOf v := by
  unfold toLen
  split
  · rename_i ad l cap
    cases ad with
    | none => rfl
    | some a => rfl
  · rfl

theorem Recs.take {w : World} {v : Value} {l : List ByteArray} (h : Recs w v l) {n : Nat} (hn : n ≤ l.length) : Recs w (toLen v n) (l.take n) := by
  rcases h with ⟨rfl, rfl⟩ | ⟨g, o, cap, cur, rfl, h1, h2, h3, h4, h5⟩
  · obtain rfl : n = 0 := by simpa using hn
    exact .inl ⟨rfl, rfl⟩
  · have hl : (l.take n).length = n := by rw [List.length_take, Nat.min_eq_left hn]
    refine .inr ⟨g, o, cap, cur, by rw [hl]; rfl, h1, by omega, h3, h4, fun j s hj => ?_⟩
    have hj' := (List.getElem?_eq_some_iff.1 hj).1
    rw [List.getElem?_take] at hj
    split at hj
    · exact h5 j s hj
    · cases hj

theorem sp_take {w0 w : World} {v : Value} {l : List ByteArray} {L : List It} (h : Sp w0 w (rc v l :: L)) {n : Nat} (hn : n ≤ l.length) : Sp w0 w (rc (toLen v n) (l.take n) :: L) := by
  obtain ⟨F, ⟨hr, rfl⟩, _, k⟩ := h.turn
  exact k (rc (toLen v n) (l.take n)) w ⟨_, ⟨hr.take hn, by rw [rowOf_toLen]⟩, fun k hk => .inl hk, Only.refl _ _⟩

theorem Sp.cut2 {w0 w : World} {i j : It} {L : List It} (h : Sp w0 w (i :: j :: L)) : Sp w0 w [i, j] := by
  induction L with
  | nil => exact h
  | cons a L ih => exact ih h.rot.drop

/-! Rows of numbers of the call's own. -/

def intsV (l : List Nat) : List Value := l.map fun x : Nat => Value.int .i64 x

theorem intsV_get (l : List Nat) (j : Nat) : (intsV l)[j]? = (l[j]?).map fun x : Nat => Value.int .i64 x := by simp [intsV]

theorem infoInt : (Tryz.prog.info? 3).map (fun i => (i.zero, i.size, i.bytes)) = some (some (.int .i64 0), 1, 8) := by kernel_rfl

def ri (v : Value) (l : List Nat) : It where
  p w F := w.ownsRow 0 3 1 v l.length (intsV l) ∧ F = v.ownBlock.toList
  kept := by
    rintro w w' F ⟨⟨h1, h2⟩, rfl⟩ hk
    refine ⟨⟨h1, ?_⟩, rfl⟩
    rcases h2 with h2 | ⟨g, cap, cur, rfl, hb, hg, h3⟩
    · exact .inl h2
    · exact .inr ⟨g, cap, cur, rfl, hb, by rw [hk g (by simp [Value.ownBlock])]; exact hg, h3⟩
  lt := by
    rintro w F ⟨h, rfl⟩ k hk
    exact (h.lt k (by simpa using hk)).2

theorem Sp.ints {w0 w : World} {v : Value} {l : List Nat} {L : List It} (h : Sp w0 w (ri v l :: L)) : w.ownsRow 0 3 1 v l.length (intsV l) := by
  obtain ⟨F, h1, _⟩ := h.get
  exact h1

theorem ints_cells {w : World} {v : Value} {l : List Nat} (h : w.ownsRow 0 3 1 v l.length (intsV l)) (hl : 0 < l.length) :
    ∃ g cap, v = .slice (some ⟨g, 0, none⟩) l.length cap ∧ l.length ≤ cap ∧ ∀ (j x : Nat), l[j]? = some x → w.cell? ⟨g, j, none⟩ = some (.int .i64 x) := by
  have h0 := h
  rcases h.2 with ⟨_, h1⟩ | ⟨g, cap, cur, rfl, _, _, hn, _⟩
  · omega
  · refine ⟨g, cap, rfl, hn, fun j x hj => ?_⟩
    have hj' := (List.getElem?_eq_some_iff.1 hj).1
    rw [h0.cellAt j (by omega), intsV_get, hj]
    rfl

theorem ints_shape {w : World} {v : Value} {l : List Nat} (h : w.ownsRow 0 3 1 v l.length (intsV l)) : ∃ ad cap, v = .slice ad l.length cap := by
  rcases h.2 with ⟨rfl, h1⟩ | ⟨g, cap, cur, rfl, _⟩
  · rw [h1]
    exact ⟨_, _, rfl⟩
  · exact ⟨_, _, rfl⟩

theorem sp_ints {w0 w : World} {L : List It} (h : Sp w0 w L) : Sp w0 w (ri (.slice none 0 0) [] :: L) :=
  h.new (Below.refl _ _) ⟨[], ⟨World.ownsRow_nil _ _ _ _, rfl⟩, by simp⟩

/-- At the operation, for the walk: one number more at the end of a row of one's own. -/
theorem wpList_append_int {w0 : World} {L : List It} {ops : Array Oper} {rest : List Oper} {o : Oper} {a : Act} {Q : Exit → Act → World → Prop} {w : World} (hgd : o.guard = none) (sl x : Operand)
    (ho : o.op = .call { callee := .builtin .append, args := #[sl, x], argTypes := #[42, 42] }) (v : Value) (l : List Nat) (hs : a.eval sl = v) (h : Sp w0 w (ri v l :: L)) (hl : l.length ≤ 2000000)
    (ad : Addr) (c : Nat) (s : Nat) (hx : a.eval x = .slice (some ad) 1 c) (hc : w.cell? ad = some (.int .i64 s))
    (k : ∀ v' w', Sp w0 w' (ri v' (l ++ [s]) :: L) → wpList Tryz.prog ops Q rest (a.put o.dst v') w') : wpList Tryz.prog ops Q (o :: rest) a w := by
  obtain ⟨i0, hi, hz0, hz1, hz2⟩ := info_parts infoInt
  obtain ⟨F, ⟨hr, rfl⟩, _, kk⟩ := h.turn
  refine wpList_append_own_at w hgd sl x 42 ho 0 3 i0 (.int .i64 0) 1 8 Tryz.underlying42 hi hz0 hz1 hz2 rfl (by omega) v l.length (intsV l) hs hr ad 1 c [.int .i64 s] hx rfl ?_ ?_ (by unfold maxLen; omega) (by omega) (Nat.zero_le _) ?_
  · intro j u hj
    match j, hj with
    | 0, hj =>
      simp at hj
      subst hj
      simpa [Addr.add] using hc
  · intro u hu
    simp at hu
    subst hu
    rfl
  · intro v' w' h1 h2 _ h3
    refine k v' w' (kk (ri v' (l ++ [s])) w' ⟨v'.ownBlock.toList, ⟨by simpa [intsV] using h1, rfl⟩, fun i hi => ?_, (Only.refl _ _).grown h2 (fun i hi => .inl (by simp [hi]))⟩)
    rcases h3 with h3 | h3
    · rw [h3] at hi
      exact .inl hi
    · rw [h3] at hi
      have := Option.mem_toList.1 hi
      simp at this
      exact .inr (by omega)

/-- Many texts, in a row of their own. -/
theorem append_many {w : World} {v : Value} {l : List ByteArray} (h : Recs w v l) (hl : l.length ≤ 2000000) (ty : TypeId) :
    ∃ v' w', (Builtin.append_ #[35, 35] ty #[.slice none 0 0, v]).run Tryz.prog w = .ok v' w' ∧ Recs w' v' l ∧ Below w.heap.size w w' ∧ ∀ k, rowOf v' = some k → w.heap.size ≤ k := by
  obtain ⟨i0, hi, hz0, hz1, hz2⟩ := info_parts infoStr
  have ht : Tryz.prog.underlying 35 = some (.slice 9) := Tryz.underlying35
  by_cases h0 : 0 < l.length
  · obtain ⟨g, o, cap, rfl, hlc, hc⟩ := h.cells h0
    have hnews : ∀ j u, (l.map Value.string)[j]? = some u → w.cell? ((⟨g, o, none⟩ : Addr).add j) = some u := by
      intro j u hj
      rw [strs_get] at hj
      obtain ⟨x, hx, rfl⟩ := Option.map_eq_some_iff.1 hj
      rw [Addr.add_lit]
      exact hc j x hx
    have hr := run_append_nil (P := Tryz.prog) w 35 ty 9 i0 (.string ⟨#[]⟩) ht hi hz0 ⟨g, o, none⟩ l.length cap (l.map Value.string) (by rw [hz1]; simp) hnews h0 (by omega) (by rw [hz2]; omega)
    have hge := grownCap_ge w l.length 0 9
    have hcm := grownCap_le_maxLen w l.length 0 9 (by unfold maxLen; omega)
    refine ⟨_, _, hr, .inr ⟨w.heap.size, 0, _, _, rfl, heap_alloc_new w.drew _, hge, hcm, ?_, ?_⟩, ((Below.refl _ _).drew).alloc (Nat.le_refl _) _, fun k hk => ?_⟩
    · rw [Array.size_append, size_zeroCells, List.size_toArray, List.length_map]
      simp only [Value.cells, List.size_toArray, List.length_cons, List.length_nil]
      omega
    · intro j x hj
      have hj' : j < (l.map Value.string).toArray.size := by
        have := (List.getElem?_eq_some_iff.1 hj).1
        simpa using this
      rw [Nat.zero_add, Array.getElem?_append_left hj', List.getElem?_toArray, strs_get, hj]
      rfl
    · have : w.heap.size = k := by simpa [rowOf] using hk
      omega
  · obtain rfl : l = [] := List.eq_nil_of_length_eq_zero (by omega)
    refine ⟨.slice none 0 0, w, ?_, .inl ⟨rfl, rfl⟩, Below.refl _ _, fun k hk => by cases hk⟩
    obtain ⟨ad, cap, rfl⟩ := h.shape
    cases ad with
    | none => simp [Builtin.append_, run_underlying ht, sizeOf, typeInfo, hi, Builtin.lenOf, Builtin.firstCells]
    | some a => simp [Builtin.append_, run_underlying ht, sizeOf, typeInfo, hi, Builtin.lenOf, Builtin.firstCells, loadCells, loadCellsFrom]

/-- At the operation, for the walk: many texts onto none. -/
theorem wpList_append_many {w0 : World} {L : List It} {ops : Array Oper} {rest : List Oper} {o : Oper} {a : Act} {Q : Exit → Act → World → Prop} {w : World} (hgd : o.guard = none) (sl x : Operand)
    (ho : o.op = .call { callee := .builtin .append, args := #[sl, x], argTypes := #[35, 35] }) (v : Value) (l : List ByteArray) (hs : a.eval sl = .slice none 0 0) (hx : a.eval x = v) (hr : Recs w v l) (hl : l.length ≤ 2000000) (h : Sp w0 w L)
    (k : ∀ v' w', Sp w0 w' (rc v' l :: L) → wpList Tryz.prog ops Q rest (a.put o.dst v') w') : wpList Tryz.prog ops Q (o :: rest) a w := by
  obtain ⟨v', w', hrun, h2, h3, h4⟩ := append_many hr hl o.type
  refine Lib.wpList_append_run_sl w hgd sl x 35 ho _ _ hs hx hrun (k v' w' (h.new h3 ⟨(rowOf v').toList, ⟨h2, rfl⟩, fun i hi => h4 i (by simpa using hi)⟩))

end Go.Proofs.YtaekieoingflaaaGreatDoor
