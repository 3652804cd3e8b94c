/-
  JournalTorn answers true: a journal cut anywhere behind its first leaf.
-/
import Derived.Test.YtaekieoingflaaaGreatDoorBegun4
import Derived.Test.YtaekieoingflaaaGreatDoorJrG
import Derived.Deep.RegionHeld3
namespace Go.Proofs.YtaekieoingflaaaGreatDoor
open Go.RowKit Go.Maps Go.Proofs.MapD Go.Proofs.Chest

def torSt (A : List ByteArray) : St := one (1048576 - (leavesS (bE :: A)).size) (leavesS (bE :: A)) 11 true
def torJr (A : List ByteArray) : Jr := ⟨bE, A, (leavesS (bE :: A)).size, false⟩
def bZ : ByteArray := ⟨#[122]⟩

theorem tor_start : openS ⟨1048576, []⟩ = (0, torSt [], torJr []) := by
  have e : leavesS [bE] = leafS ⟨#[]⟩ := leaves_one bE
  rw [open_none 1048576 (by omega)]
  unfold torSt torJr
  rw [e, leaf0_size]
  rfl

theorem tor_snoc (A : List ByteArray) (s : ByteArray) : leavesS (bE :: (A ++ [s])) = leavesS (bE :: A) ++ leafS s := leavesS_snoc (bE :: A) s

theorem tor_add (A : List ByteArray) (s : ByteArray) (hs : s.size ≤ 400000) (h : (leavesS (bE :: A)).size + (leafS s).size ≤ 1048576) : addS (torSt A) (torJr A) s false = (0, torSt (A ++ [s]), torJr (A ++ [s])) := by
  unfold torSt torJr
  rw [add_one _ _ _ _ _ _ _ s hs (by omega) false, tor_snoc, ByteArray.size_append]
  simp only [Bool.false_eq_true, if_false, Bool.true_or]
  rw [Nat.sub_sub]

theorem one_len (room : Nat) (t : ByteArray) (p : Nat) (s : Bool) : (one room t p s).l.length ≤ 900 := (by decide : 1 ≤ 900)
theorem tor_len (A : List ByteArray) : (torSt A).l.length ≤ 900 := (by decide : 1 ≤ 900)
theorem tor_read (A : List ByteArray) : readS (torSt A) nLOG = (leavesS (bE :: A), true) := one_read

/-- Where each record ends. -/
def Ends (A : List ByteArray) (E : List Nat) : Prop := E.length = A.length ∧ ∀ i, i < A.length → E[i]? = some (leavesS (bE :: A.take (i + 1))).size

theorem ends_snoc {A : List ByteArray} {E : List Nat} (h : Ends A E) (s : ByteArray) : Ends (A ++ [s]) (E ++ [(leavesS (bE :: (A ++ [s]))).size]) := by
  refine ⟨by simp [h.1], fun i hi => ?_⟩
  rw [List.length_append, List.length_singleton] at hi
  by_cases hj : i < A.length
  · rw [List.getElem?_append_left (by rw [h.1]; exact hj), h.2 i hj, List.take_append_of_le_length (by omega)]
  · obtain rfl : i = A.length := by omega
    rw [← h.1, List.getElem?_append_right (Nat.le_refl _), Nat.sub_self, h.1, List.take_of_length_le (by simp)]
    rfl

/-- Cut anywhere: so many records are there. -/
theorem tor_open (A : List ByteArray) (hA : ∀ x ∈ bE :: A, x.size ≤ 400000) (k : Nat) (h1 : 11 ≤ k) (h2 : k ≤ (leavesS (bE :: A)).size) :
    ∃ m R s, m ≤ A.length ∧ (∀ i, i < A.length → ((leavesS (bE :: A.take (i + 1))).size ≤ k ↔ i < m)) ∧ 1048576 - k ≤ R ∧
      openS (one (1048576 - k) ((leavesS (bE :: A)).extract 0 k) 0 false) = (0, one R (leavesS (bE :: A.take m)) 0 s, torJr (A.take m)) := by
  obtain ⟨m1, rest, hm, he, hr, hz, hi⟩ := leaves_cut (bE :: A) k hA h2
  have hm1 := (hi 1 (by simp)).1 (by
    show (leavesS [bE]).size ≤ k
    rw [leaves_one]
    show (leafS ⟨#[]⟩).size ≤ k
    rw [leaf0_size]
    exact h1)
  obtain ⟨m, rfl⟩ : ∃ m, m1 = m + 1 := ⟨m1 - 1, by omega⟩
  rw [List.take_succ_cons] at he hz
  have hml : m ≤ A.length := by simpa using hm
  rw [he, open_one _ _ false bE (A.take m) rest (fun x hx => hA x (by
    rcases List.mem_cons.1 hx with rfl | hx
    · simp
    · exact List.mem_cons_of_mem _ (List.mem_of_mem_take hx))) hr]
  by_cases h0 : rest.size = 0
  · rw [if_pos h0]
    exact ⟨m, _, _, hml, fun i hi' => by
      have := hi (i + 2) (by simp; omega)
      rw [List.take_succ_cons] at this
      rw [this]
      omega, Nat.le_refl _, rfl⟩
  · rw [if_neg h0, Nat.zero_min]
    exact ⟨m, _, _, hml, fun i hi' => by
      have := hi (i + 2) (by simp; omega)
      rw [List.take_succ_cons] at this
      rw [this]
      omega, Nat.le_add_right _ _, rfl⟩

theorem z_Z : (leafS bZ).size = 12 := small_leaf (n := 1) rfl (by decide)

theorem tor_z (R : Nat) (hR : 12 ≤ R) (B : List ByteArray) (s : Bool) :
    addS (one R (leavesS (bE :: B)) 0 s) (torJr B) bZ true = (0, one (R - 12) (leavesS (bE :: (B ++ [bZ]))) (leavesS (bE :: (B ++ [bZ]))).size true, torJr (B ++ [bZ])) := by
  unfold torJr
  rw [add_one _ _ _ _ _ _ _ bZ (by decide) (by rw [z_Z]; exact hR) true, tor_snoc, ByteArray.size_append, z_Z]
  simp only [if_true, Bool.or_true]

theorem tor_last (R : Nat) (B : List ByteArray) (hB : ∀ x ∈ bE :: B, x.size ≤ 400000) : ∃ st, st.l.length ≤ 900 ∧ openS (tear (one R (leavesS (bE :: B)) (leavesS (bE :: B)).size true) 0) = (0, st, torJr B) := by
  have hst : stays ⟨leavesS (bE :: B), (leavesS (bE :: B)).size, true⟩ 0 = (leavesS (bE :: B)).size := by
    unfold stays
    simp only [Nat.sub_self, Nat.zero_add, Nat.mod_one, Nat.add_zero]
  rw [tear_one, hst, extract_all]
  have := open_one (R + ((leavesS (bE :: B)).size - (leavesS (bE :: B)).size)) (leavesS (bE :: B)).size true bE B ⟨#[]⟩ hB (.inl rfl)
  rw [append_none, if_pos (show (⟨#[]⟩ : ByteArray).size = 0 from rfl)] at this
  refine ⟨_, ?_, this⟩
  exact (by decide : 1 ≤ 900)

theorem Recs.below {w w' : World} {v : Value} {l : List ByteArray} (h : Recs w v l) (hb : Below w.heap.size w w') : Recs w' v l := h.kept (fun _ hg => hb.block _ (h.lt hg))

theorem cell_keep {w w' : World} (hb : Below w.heap.size w w') {ad : Addr} {v : Value} (h : w.cell? ad = some v) : w'.cell? ad = some v := by
  rw [hb.cell (World.block_lt_of_cell? w _ h)]
  exact h

theorem below_grown {w0 w w' : World} {r : Option Nat} (h : Below w0.heap.size w0 w) (hg : w.grownBy w' r) (hr : ∀ k, r = some k → w0.heap.size ≤ k) : Below w0.heap.size w0 w' :=
  ((Only.of_below h []).grown hg (fun k hk => .inr (hr k hk))).below (Nat.le_refl _) (by simp)

theorem op_one {K : Act → World → Prop} {Q : Exit → Act → World → Prop} {o : Oper} {a : Act} {w : World} (sl x : Operand)
    (ho : o.op = .call { callee := .builtin .append, args := #[sl, x], argTypes := #[35, 35] }) (v : Value) (l : List ByteArray) (hs : a.eval sl = v) (ad : Addr) (c : Nat) (s : ByteArray) (hx : a.eval x = .slice (some ad) 1 c) (h : Recs w v l) (hl : l.length ≤ 2000000)
    (hc : w.cell? ad = some (.string s))
    (k : ∀ v' w', Recs w' v' (l ++ [s]) → w.grownBy w' (rowOf v) → (rowOf v' = rowOf v ∨ rowOf v' = some w.heap.size) → K (a.put o.dst v') w') : o.wp Tryz.prog a w K Q := by
  obtain ⟨v', w', hr, h2, h3, h4⟩ := append_recs h hl ad c s hc o.type
  exact Lib.wp_append_run_sl w sl x 35 ho v _ hs hx hr (k v' w' h2 h3 h4)

theorem op_many {K : Act → World → Prop} {Q : Exit → Act → World → Prop} {o : Oper} {a : Act} {w : World} (sl x : Operand)
    (ho : o.op = .call { callee := .builtin .append, args := #[sl, x], argTypes := #[35, 35] }) (v : Value) (l : List ByteArray) (hs : a.eval sl = .slice none 0 0) (hx : a.eval x = v) (h : Recs w v l) (hl : l.length ≤ 2000000)
    (k : ∀ v' w', Recs w' v' l → Below w.heap.size w w' → (∀ k, rowOf v' = some k → w.heap.size ≤ k) → K (a.put o.dst v') w') : o.wp Tryz.prog a w K Q := by
  obtain ⟨v', w', hr, h2, h3, h4⟩ := append_many h hl o.type
  exact Lib.wp_append_run_sl w sl x 35 ho _ _ hs hx hr (k v' w' h2 h3 h4)

/-- What the first loop keeps. -/
def TorRel (len c j : Nat) (w : World) (av ev iv : Value) (wr : World) : Prop :=
  ∃ (k z : Nat) (A : List ByteArray) (E : List Nat) (va ve : Value), va = av ∧ ve = ev ∧ iv = .int .i64 k ∧ k ≤ 8 ∧ k ≤ len ∧ A.length ≤ k ∧ E.length ≤ k ∧ z ≤ 11 + 100 * k ∧ Hid ((leavesS (bE :: A)).size = z ∧ (∀ x ∈ A, x.size ≤ 60) ∧ Ends A E) ∧
    Hid (Sp w wr [jc c j (torSt A) (torJr A), rc va A, ri ve E])

theorem tor_small {A : List ByteArray} (h : ∀ x ∈ A, x.size ≤ 60) : ∀ x ∈ bE :: A, x.size ≤ 400000 := by
  intro x hx
  rcases List.mem_cons.1 hx with rfl | hx
  · decide
  · have := h x hx; omega

set_option maxRecDepth 100000 in
set_option maxHeartbeats 8000000 in
theorem journalTorn_walk (v : Value) (len : Nat) (cs : Nat → ByteArray) (b off cap : Nat) (ad : Option Addr) (hv : v = .slice ad len cap) (had : 0 < len → ad = some ⟨b, off, none⟩) (ct : Int) (w : World) (hbg : BegunTrue4) (h : LibAt w)
    (hl : len ≤ 9223372036854775807) (hb : 0 < len → b < w.heap.size) (hc : ∀ i, i < len → w.cell? ⟨b, off + i, none⟩ = some (.string (cs i))) :
    Calls Tryz.prog 5 #[v, .int .i64 ct] w fun e w' => e = .returned (.bool true) ∧ Below w.heap.size w w' := by
  subst hv
  have HB := Lib.hid (hbg w h)
  have HL := Lib.hid h
  have HC := Lib.hid hc
  have HBL := Lib.hid hb
  have HAD := Lib.hid had
  have hr3 : Hid ((min (max (1048576 : Int) 0) 1048576).toNat = 1048576) := Lib.hid (by omega)
  have RL := Lib.hid (rleaf_p bE (by decide))
  have hH0 : 11 ≤ (leafS bE).size := Nat.le_of_eq z_E.symm
  have hH1 : (leafS bE).size ≤ 11 := Nat.le_of_eq z_E
  have RD0 : Hid ((readS (torSt []) nLOG).1 = leafS bE ∧ (readS (torSt []) nLOG).2 = true) := Lib.hid (by rw [tor_read, leaves_one]; exact ⟨rfl, rfl⟩)
  generalize leafS bE = H at *
  clear hbg h hc hb had
  by_cases hneg : ct < 0
  · go_enter Tryz.func5, Tryz.ntmps5
    go_wp2_with fail
    refine HB.out.mono ?_
    rintro _ w1 ⟨rfl, hb1⟩
    have H1 := Lib.hid (Sp.of_below hb1)
    clear hb1
    go_wp2_with fail
    refine (s_new 1048576 H1.out).mono ?_
    rintro _ w2 ⟨c, rfl, h2⟩
    rw [hr3.out] at h2
    have H2 := Lib.hid h2
    clear h2
    go_wp2_with fail
    refine (s_open_ok H2.out HL.out (Nat.zero_le _) tor_start).mono ?_
    rintro _ w3 ⟨j, rfl, h3⟩
    have H3 := Lib.hid h3
    clear h3
    go_wp2_with fail
    go_ret
    exact ⟨rfl, H3.out.bl⟩
  go_enter Tryz.func5, Tryz.ntmps5
  go_wp2_with fail
  refine HB.out.mono ?_
  rintro _ w1 ⟨rfl, hb1⟩
  have H1 := Lib.hid (Sp.of_below hb1)
  clear hb1
  go_wp2_with fail
  refine (s_new 1048576 H1.out).mono ?_
  rintro _ w2 ⟨c, rfl, h2⟩
  rw [hr3.out] at h2
  have H2 := Lib.hid h2
  clear h2
  go_wp2_with fail
  refine (s_open_ok H2.out HL.out (Nat.zero_le _) tor_start).mono ?_
  rintro _ w3 ⟨j, rfl, h3⟩
  have H3 := Lib.hid (sp_ints (sp_nil h3).swap).rot.rot
  clear h3
  go_wp2_with fail
  refine (s_jread H3.out nLOG (by decide)).mono ?_
  rintro _ _ ⟨e, rfl⟩
  rw [RD0.out.1, RD0.out.2] at e
  subst e
  go_wp2_with fail
  go_loopw [11, 12, 13] (fun av ev iv wr => TorRel len c j w av ev iv wr) (fun _ _ iv _ => 8 - (intOf iv).toNat)
  case atStart => exact ⟨0, 11, [], [], _, _, rfl, rfl, rfl, by omega, by omega, Nat.le_refl _, Nat.le_refl _, by omega, Lib.hid ⟨by rw [leaves_one]; exact z_E, by simp, rfl, by simp⟩, H3⟩
  case round =>
    obtain ⟨k, z, A, E, va, ve, hva, hve, rfl, hk, hkl, hA, hEk, hz, HA, HS⟩ := hrel
    subst hva
    subst hve
    by_cases hin : k < len ∧ k < 8
    · obtain ⟨h1, h2⟩ := hin
      obtain rfl := HAD.out (by omega)
      have hcell : wr.cell? ⟨b, off + k, none⟩ = some (.string (cs k)) := by rw [HS.out.bl.cell (HBL.out (by omega))]; exact HC.out k h1
      have C3 := Lib.hid (cut_any (cs k) 40)
      have hSz := cutS_size (cs k) 40
      generalize cutS (cs k) 40 = X at *
      have j1 : (k : Int) < (len : Int) := by omega
      have j2 : (k : Int) < 8 := by omega
      obtain ⟨q, hq⟩ : ∃ q, (leafS X).size = q := ⟨_, rfl⟩
      have hq2 : q ≤ 100 := by
        rw [← hq, leafS_size (by omega)]
        have := Lib.nDigits_le20 X.size (by omega)
        omega
      have ha := tor_add A X (by omega) (by rw [HA.out.1, hq]; omega)
      have HADD := Lib.hid (s_add HS.out HL.out (tor_len A) (by show A.length ≤ 1000000; omega) (by show (leavesS (bE :: A)).size ≤ 1000000000; rw [HA.out.1]; omega) X false)
      have HE := Lib.hid (show (leavesS (bE :: (A ++ [X]))).size = z + q ∧ (∀ x ∈ A ++ [X], x.size ≤ 60) ∧ Ends (A ++ [X]) (E ++ [(leavesS (bE :: (A ++ [X]))).size]) from ⟨by rw [tor_snoc, ByteArray.size_append, HA.out.1, hq], fun x hx => by
        rcases List.mem_append.1 hx with hx | hx
        · exact HA.out.2.1 x hx
        · obtain rfl : x = X := by simpa using hx
          omega, ends_snoc HA.out.2.2 X⟩)
      have RD : Hid ((readS (torSt (A ++ [X])) nLOG).1 = leavesS (bE :: (A ++ [X])) ∧ (readS (torSt (A ++ [X])) nLOG).2 = true) := Lib.hid (by rw [tor_read]; exact ⟨rfl, rfl⟩)
      rw [ha] at HADD
      have hTz : (leavesS (bE :: (A ++ [X]))).size ≤ 2000 := by rw [HE.out.1]; omega
      clear ha hq
      go_wp2_with fail
      refine (C3.out _).mono ?_
      rintro _ _ ⟨rfl, rfl⟩
      go_wp2_with fail
      refine HADD.out.mono ?_
      rintro _ w4 ⟨rfl, h4⟩
      have H4 := Lib.hid h4
      clear h4
      go_wp2_with fail
      refine (s_jread H4.out nLOG (by decide)).mono ?_
      rintro _ _ ⟨e, rfl⟩
      rw [RD.out.1, RD.out.2] at e
      subst e
      generalize hT : leavesS (bE :: (A ++ [X])) = T at *
      have HT := Lib.hid hT
      clear hT
      have H5 : Hid (∀ ty, Sp w (w4.alloc (.cells #[.string X] ty)) [rc va A, ri ve E, jc c j (torSt (A ++ [X])) (torJr (A ++ [X]))]) := Lib.hid (fun ty => (H4.out.below ((Below.refl _ _).alloc (Nat.le_refl _) _)).rot.rot)
      have hcl : ∀ (W : World) (ty : TypeId), (W.alloc (.cells #[.string X] ty)).cell? ⟨W.heap.size, 0, none⟩ = some (.string X) := by
        intro W ty
        go_simp
      have HCL := Lib.hid hcl
      have hcl2 : ∀ (W : World) (ty : TypeId), (W.alloc (.cells #[.int .i64 T.size] ty)).cell? ⟨W.heap.size, 0, none⟩ = some (.int .i64 T.size) := by
        intro W ty
        go_simp
      have HCL2 := Lib.hid hcl2
      clear hcl hcl2
      go_wp2_with (at_builtin; first
        | (refine wpList_append_recs rfl _ _ rfl va A rfl (sp_append (H5.out _)).1 (by omega) ⟨w4.heap.size, 0, none⟩ 1 X rfl (HCL.out _ _) ?_; intro v' w6 h1 h2 h3; have H6 := Lib.hid ((sp_append (H5.out _)).2 v' w6 X h1 h2 h3); have H7 : Hid (∀ ty, Sp w (w6.alloc (.cells #[.int .i64 T.size] ty)) [ri ve E, jc c j (torSt (A ++ [X])) (torJr (A ++ [X])), rc v' (A ++ [X])]) := Lib.hid (fun ty => (H6.out.below ((Below.refl _ _).alloc (Nat.le_refl _) _)).rot.rot); clear h1 h2 h3)
        | (refine wpList_append_int rfl _ _ rfl ve E rfl (H7.out _) (by omega) ⟨w6.heap.size, 0, none⟩ 1 T.size rfl (HCL2.out _ _) ?_; intro ve' w8 h8; have H8 := Lib.hid h8.rot.rot; clear h8))
      go_roundw
      case rel => exact ⟨k + 1, z + q, A ++ [X], E ++ [T.size], _, _, rfl, rfl, by go_num, by omega, by omega, by simp; omega, by simp; omega, by omega, by rw [HT.out]; exact HE, H8⟩
      case measure => simp [intOf]; omega
    · have RDT : Hid ((readS (torSt A) nLOG).1 = leavesS (bE :: A) ∧ (readS (torSt A) nLOG).2 = true) := Lib.hid (by rw [tor_read]; exact ⟨rfl, rfl⟩)
      have hTz : (leavesS (bE :: A)).size ≤ 2000 := by rw [HA.out.1]; omega
      have hT11 : 11 ≤ (leavesS (bE :: A)).size := by
        show 11 ≤ (leafS bE ++ leavesS A).size
        rw [ByteArray.size_append, z_E]
        omega
      obtain ⟨kN, hkN⟩ : ∃ kN : Nat, kN = 11 + ct.toNat % ((leavesS (bE :: A)).size - 11 + 1) := ⟨_, rfl⟩
      have hk1 : 11 ≤ kN := by omega
      have hk2 : kN ≤ (leavesS (bE :: A)).size := by
        have := Nat.mod_lt ct.toNat (show 0 < (leavesS (bE :: A)).size - 11 + 1 by omega)
        omega
      obtain ⟨m, R, s, hm, hmi, hR, ho⟩ := tor_open A (tor_small HA.out.2.1) kN hk1 hk2
      obtain ⟨qi, hqi⟩ : ∃ qi : Int, ct % (((leavesS (bE :: A)).size : Int) - (H.size : Int) + 1) = qi := ⟨_, rfl⟩
      have hqk : (H.size : Int) + qi = kN := by
        have h1 := emod_nat ct ((leavesS (bE :: A)).size - 11 + 1) (by omega)
        rw [show (((leavesS (bE :: A)).size : Int) - (H.size : Int) + 1) = (((leavesS (bE :: A)).size - 11 + 1 : Nat) : Int) by omega, h1] at hqi
        omega
      obtain ⟨X, hX⟩ : ∃ X, (leavesS (bE :: A)).extract 0 kN = X := ⟨_, rfl⟩
      have hXz : X.size = kN := by rw [← hX, ByteArray.size_extract]; omega
      have WR : Hid (write ⟨1048576, []⟩ nLOG X = (0, one (1048576 - kN) X 0 false)) := Lib.hid (by
        rw [one_write0 ok_LOG X (by omega), hXz]
        rfl)
      rw [hX] at ho
      have HO := Lib.hid ho
      have HZ := Lib.hid (tor_z R (by omega) (A.take m) s)
      obtain ⟨stL, hstL, hLast⟩ := tor_last (R - 12) (A.take m ++ [bZ]) (fun x hx => by
        rcases List.mem_cons.1 hx with rfl | hx
        · decide
        · rcases List.mem_append.1 hx with hx | hx
          · have := HA.out.2.1 x (List.mem_of_mem_take hx); omega
          · obtain rfl : x = bZ := by simpa using hx
            decide)
      have HLAST := Lib.hid hLast
      have HEN : Hid (∀ i, i < A.length → ∃ x, E[i]? = some x ∧ (x ≤ kN ↔ i < m)) := Lib.hid (fun i hi => ⟨_, HA.out.2.2.2 i hi, hmi i hi⟩)
      have hE1 : E.length ≤ A.length := Nat.le_of_eq HA.out.2.2.1
      have hE2 : A.length ≤ E.length := Nat.le_of_eq HA.out.2.2.1.symm
      have hAm : (A.take m).length ≤ 8 := by rw [List.length_take]; omega
      have hAm2 : (A.take m).length = m := by rw [List.length_take]; omega
      have hB1 : (leavesS (bE :: A.take m)).size ≤ 2000 := by
        have h1 : (leavesS (bE :: A)).size = (leavesS ((bE :: A).take (m + 1))).size + (leavesS ((bE :: A).drop (m + 1))).size := by
          conv => lhs; rw [← List.take_append_drop (m + 1) (bE :: A), leavesS_append, ByteArray.size_append]
        rw [List.take_succ_cons] at h1
        omega
      have HAM := Lib.hid hAm2
      have hq0 : 0 ≤ qi := by omega
      have hq1 : (H.size : Int) + qi ≤ ((leavesS (bE :: A)).size : Int) := by omega
      generalize leavesS (bE :: A) = T at *
      obtain ⟨ead, ecap, rfl⟩ := ints_shape HS.out.rot.ints
      have hx : ((k : Int) < (len : Int) ∧ ¬ (k : Int) < 8) ∨ ¬ (k : Int) < (len : Int) := by omega
      clear ho hLast hmi hXz hin HC HBL HAD hkN hAm2
      have hexit : Hid (k ≤ 8) := Lib.hid hk
      rcases HS.out.swap.recs with ⟨hv, hA0⟩ | ⟨g, o, cap', cur, hv, _, hlc, _⟩
      · subst hv
        subst hA0
        clear hA
        rcases hx with ⟨j1, j2⟩ | j1
        all_goals
          go_wp2_with fail
          refine (s_jread HS.out nLOG (by decide)).mono ?_
          rintro _ _ ⟨e, rfl⟩
          rw [RDT.out.1, RDT.out.2] at e
          subst e
          go_wp2_with fail
          refine (s_new 1048576 HS.out).mono ?_
          rintro _ w4 ⟨d, rfl, h4⟩
          rw [hr3.out] at h4
          have H4 := Lib.hid h4
          clear h4
          go_wp2_with fail
          refine (s_write H4.out (by decide) nLOG X (by decide)).mono ?_
          rintro _ w5 ⟨e, h5⟩
          rw [WR.out] at e h5
          subst e
          have H5 := Lib.hid h5.swap.drop
          clear h5
          go_wp2_with fail
          go_loopw [21] (fun nv wr2 => ∃ n : Nat, nv = .int .i64 n ∧ n ≤ m ∧ Hid (Sp w wr2 [ch d (one (1048576 - kN) X 0 false), rc (.slice none 0 0) [], ri (.slice ead E.length ecap) E])) (fun nv _ => m - (intOf nv).toNat)
          case atStart => exact ⟨0, rfl, Nat.zero_le _, H5⟩
          case round =>
            obtain ⟨n, rfl, hn, HN⟩ := hrel
            by_cases hnm : n < m
            · obtain ⟨y, hy, hym⟩ := HEN.out n (by omega)
              obtain ⟨g2, cap2, hv2, hlc2, hc2⟩ := ints_cells HN.out.rot.ints (by omega)
              obtain ⟨rfl, rfl⟩ : ead = some ⟨g2, 0, none⟩ ∧ ecap = cap2 := by cases hv2; exact ⟨rfl, rfl⟩
              have q := hc2 n y hy
              have hyle : (y : Int) ≤ (kN : Int) := by have := hym.2 hnm; omega
              have n1 : (n : Int) < (E.length : Int) := by omega
              have n0 : (0 : Int) ≤ (n : Int) := by omega
              clear hy hym hc2 hv2
              go_wp2_with fail
              go_roundw
              case rel => exact ⟨n + 1, by go_num, by omega, HN⟩
              case measure => simp [intOf]; omega
            · by_cases hnA : n < ([] : List ByteArray).length
              · obtain ⟨y, hy, hym⟩ := HEN.out n (by omega)
                obtain ⟨g2, cap2, hv2, hlc2, hc2⟩ := ints_cells HN.out.rot.ints (by omega)
                obtain ⟨rfl, rfl⟩ : ead = some ⟨g2, 0, none⟩ ∧ ecap = cap2 := by cases hv2; exact ⟨rfl, rfl⟩
                have q := hc2 n y hy
                have hyle : ¬ (y : Int) ≤ (kN : Int) := fun h => hnm (hym.1 (by omega))
                have n1 : (n : Int) < (E.length : Int) := by omega
                have n0 : (0 : Int) ≤ (n : Int) := by omega
                clear hy hym hc2 hv2
                go_wp2_with fail
                obtain rfl : n = m := by omega
                obtain rfl : n = 0 := by simpa using hm
                simp only [List.take_nil] at HO HZ HLAST hB1
                refine (s_open_ok HN.out HL.out (one_len _ _ _ _) HO.out).mono ?_
                rintro _ w7 ⟨j2, rfl, h7⟩
                have H7 := Lib.hid h7.cut2
                clear h7
                go_wp2_with fail
                have hL1 : (torJr (([] : List ByteArray))).recs.length = 0 := rfl
                have hL2 : (torJr (([] : List ByteArray) ++ [bZ])).recs.length = 1 := rfl
                have HL1 := Lib.hid hL1
                have HL2 := Lib.hid hL2
                clear hL1 hL2
                have HD7 := Lib.hid (H7.out.below ((Below.refl _ _).drew))
                have hn0 : (0 : Int) ≤ (0 : Int) := by omega
                have hnc : (0 : Int) ≤ (0 : Int) := by omega
                go_region_held3 (fun _ => True) (trivial) (first
                  | (go_at_call 21; refine (s_records HD7.out (by have := HL1.out; omega)).mono ?_; rintro _ w8 ⟨v8, rfl, ⟨ad8, cap8, rfl, hr8⟩, _, h8⟩; have H8 := Lib.hid (And.intro (show Reads w8 (.slice ad8 0 cap8) (([] : List ByteArray)) from ⟨ad8, cap8, rfl, hr8⟩) h8); rw [HL1.out]; clear hr8 h8)
                  | (go_at_call 20; refine (jeq_p H8.out.1 (Recs.nil _).reads (Nat.zero_le _)).mono ?_; rintro _ w9 ⟨rfl, hb9⟩; rw [decide_eq_true (show ([] : List ByteArray) = ([] : List ByteArray) from rfl)]; have H9 := Lib.hid (H8.out.2.below hb9); clear hb9)
                  | (go_at_call 18; refine (s_add H9.out HL.out (one_len _ _ _ _) (by have := HL1.out; omega) (by show (leavesS (bE :: ([] : List ByteArray))).size ≤ 1000000000; omega) bZ true).mono ?_; rintro _ w10 ⟨e, h10⟩; rw [HZ.out] at e h10; subst e; have H10 := Lib.hid h10; clear h10))
                go_wp2_with fail
                refine (s_jtear H10.out (Nat.le_trans (one_len _ _ _ _) (by decide)) 0).mono ?_
                rintro _ w11 ⟨d2, rfl, h11⟩
                have H11 := Lib.hid h11
                clear h11
                go_wp2_with fail
                refine (s_open_ok H11.out HL.out (Nat.le_trans (len_tear _ _) (one_len _ _ _ _)) HLAST.out).mono ?_
                rintro _ w12 ⟨j3, rfl, h12⟩
                have H12 := Lib.hid h12.swap.drop
                clear h12
                go_wp2_with fail
                have hcl : ∀ (W : World) (ty : TypeId), (W.alloc (.cells #[.string bZ] ty)).cell? ⟨W.heap.size, 0, none⟩ = some (.string bZ) := by
                  intro W ty
                  go_simp
                have HCL := Lib.hid hcl
                clear hcl
                have HD12 : Hid (∀ W, Below w12.heap.size w12 W → Sp w W [jc d2 j3 stL (torJr (([] : List ByteArray) ++ [bZ])), rc (.slice none 0 0) []]) := Lib.hid (fun W hb => H12.out.below hb)
                have hl9 : (([] : List ByteArray)).length ≤ 2000000 := by omega
                go_region_held3 (fun _ => True) (trivial) (first
                  | (go_at_call 21; refine (s_records (HD12.out _ (by first | exact (Below.refl _ _).drew | exact ((Below.refl _ _).drew).alloc (Nat.le_refl _) _)) (by have := HL2.out; omega)).mono ?_; rintro _ w13 ⟨v13, rfl, ⟨ad13, cap13, rfl, hr13⟩, hb13, h13⟩; have H13 := Lib.hid (And.intro (show Reads w13 (.slice ad13 1 cap13) (([] : List ByteArray) ++ [bZ]) from ⟨ad13, cap13, rfl, hr13⟩) (And.intro hb13 h13.swap)); rw [HL2.out]; clear hr13 hb13 h13)
                  | (go_at_call 20; refine (jeq_p (H13.out.1.below H16.out.2) H16.out.1.reads (by have := HL2.out; exact Nat.le_trans (Nat.le_of_eq this) (by omega))).mono ?_; rintro _ w17 ⟨rfl, hb17⟩; rw [decide_eq_true (show ([] : List ByteArray) ++ [bZ] = ([] : List ByteArray) ++ [bZ] from rfl)]; have H17 := Lib.hid ((H13.out.2.2.below H16.out.2).below hb17); clear hb17)
                  | (go_at_call 22; refine (RL.out _).mono ?_; rintro _ w18 ⟨rfl, hb18⟩; have H18 := Lib.hid (H17.out.below hb18); clear hb18)
                  | (rw [if_pos (by rfl)]; refine op_many _ _ rfl (toLen (.slice none 0 0) 0) (([] : List ByteArray)) rfl rfl (Recs.nil _) hl9 ?_; intro v' w14 g1 g2 g3; have H14 := Lib.hid (And.intro g1 (And.intro g2 g3)); clear g1 g2 g3)
                  | (rw [if_pos (by rfl)]; refine op_one _ _ rfl v' (([] : List ByteArray)) rfl ⟨w12.heap.size, 0, none⟩ 1 bZ rfl H14.out.1 hl9 (cell_keep H14.out.2.1 (cell_keep H13.out.2.1 (HCL.out _ _))) ?_; intro v'' w16 h1 h2 h3; have H16 := Lib.hid (And.intro h1 (below_grown H14.out.2.1 h2 H14.out.2.2)); clear h1 h2 h3)
                  | (rw [if_pos (by rfl)]; refine op_one _ _ rfl v' (([] : List ByteArray)) rfl ⟨w13.heap.size, 0, none⟩ 1 bZ rfl H14.out.1 hl9 (cell_keep H14.out.2.1 (HCL.out _ _)) ?_; intro v'' w16 h1 h2 h3; have H16 := Lib.hid (And.intro h1 (below_grown ((((Below.refl w13.heap.size w13).alloc (Nat.le_refl _) _)).trans (H14.out.2.1.mono (by simp))) h2 (fun k hk => Nat.le_trans (by simp) (H14.out.2.2 k hk)))); clear h1 h2 h3)
                  | (rw [if_pos (by rfl)]; refine op_one _ _ rfl v' (([] : List ByteArray)) rfl ⟨w14.heap.size, 0, none⟩ 1 bZ rfl (H14.out.1.below ((Below.refl _ _).alloc (Nat.le_refl _) _)) hl9 (HCL.out _ _) ?_; intro v'' w16 h1 h2 h3; have H16 := Lib.hid (And.intro h1 (below_grown (H14.out.2.1.alloc H14.out.2.1.size _) h2 H14.out.2.2)); clear h1 h2 h3))
                all_goals
                  go_wp2_with fail
                  go_ret
                  exact ⟨rfl, H18.out.bl⟩
              · have n1 : ¬ (n : Int) < (E.length : Int) := by omega
                go_wp2_with fail
                obtain rfl : n = m := by omega
                obtain rfl : n = 0 := by simpa using hm
                simp only [List.take_nil] at HO HZ HLAST hB1
                refine (s_open_ok HN.out HL.out (one_len _ _ _ _) HO.out).mono ?_
                rintro _ w7 ⟨j2, rfl, h7⟩
                have H7 := Lib.hid h7.cut2
                clear h7
                go_wp2_with fail
                have hL1 : (torJr (([] : List ByteArray))).recs.length = 0 := rfl
                have hL2 : (torJr (([] : List ByteArray) ++ [bZ])).recs.length = 1 := rfl
                have HL1 := Lib.hid hL1
                have HL2 := Lib.hid hL2
                clear hL1 hL2
                have HD7 := Lib.hid (H7.out.below ((Below.refl _ _).drew))
                have hn0 : (0 : Int) ≤ (0 : Int) := by omega
                have hnc : (0 : Int) ≤ (0 : Int) := by omega
                go_region_held3 (fun _ => True) (trivial) (first
                  | (go_at_call 21; refine (s_records HD7.out (by have := HL1.out; omega)).mono ?_; rintro _ w8 ⟨v8, rfl, ⟨ad8, cap8, rfl, hr8⟩, _, h8⟩; have H8 := Lib.hid (And.intro (show Reads w8 (.slice ad8 0 cap8) (([] : List ByteArray)) from ⟨ad8, cap8, rfl, hr8⟩) h8); rw [HL1.out]; clear hr8 h8)
                  | (go_at_call 20; refine (jeq_p H8.out.1 (Recs.nil _).reads (Nat.zero_le _)).mono ?_; rintro _ w9 ⟨rfl, hb9⟩; rw [decide_eq_true (show ([] : List ByteArray) = ([] : List ByteArray) from rfl)]; have H9 := Lib.hid (H8.out.2.below hb9); clear hb9)
                  | (go_at_call 18; refine (s_add H9.out HL.out (one_len _ _ _ _) (by have := HL1.out; omega) (by show (leavesS (bE :: ([] : List ByteArray))).size ≤ 1000000000; omega) bZ true).mono ?_; rintro _ w10 ⟨e, h10⟩; rw [HZ.out] at e h10; subst e; have H10 := Lib.hid h10; clear h10))
                go_wp2_with fail
                refine (s_jtear H10.out (Nat.le_trans (one_len _ _ _ _) (by decide)) 0).mono ?_
                rintro _ w11 ⟨d2, rfl, h11⟩
                have H11 := Lib.hid h11
                clear h11
                go_wp2_with fail
                refine (s_open_ok H11.out HL.out (Nat.le_trans (len_tear _ _) (one_len _ _ _ _)) HLAST.out).mono ?_
                rintro _ w12 ⟨j3, rfl, h12⟩
                have H12 := Lib.hid h12.swap.drop
                clear h12
                go_wp2_with fail
                have hcl : ∀ (W : World) (ty : TypeId), (W.alloc (.cells #[.string bZ] ty)).cell? ⟨W.heap.size, 0, none⟩ = some (.string bZ) := by
                  intro W ty
                  go_simp
                have HCL := Lib.hid hcl
                clear hcl
                have HD12 : Hid (∀ W, Below w12.heap.size w12 W → Sp w W [jc d2 j3 stL (torJr (([] : List ByteArray) ++ [bZ])), rc (.slice none 0 0) []]) := Lib.hid (fun W hb => H12.out.below hb)
                have hl9 : (([] : List ByteArray)).length ≤ 2000000 := by omega
                go_region_held3 (fun _ => True) (trivial) (first
                  | (go_at_call 21; refine (s_records (HD12.out _ (by first | exact (Below.refl _ _).drew | exact ((Below.refl _ _).drew).alloc (Nat.le_refl _) _)) (by have := HL2.out; omega)).mono ?_; rintro _ w13 ⟨v13, rfl, ⟨ad13, cap13, rfl, hr13⟩, hb13, h13⟩; have H13 := Lib.hid (And.intro (show Reads w13 (.slice ad13 1 cap13) (([] : List ByteArray) ++ [bZ]) from ⟨ad13, cap13, rfl, hr13⟩) (And.intro hb13 h13.swap)); rw [HL2.out]; clear hr13 hb13 h13)
                  | (go_at_call 20; refine (jeq_p (H13.out.1.below H16.out.2) H16.out.1.reads (by have := HL2.out; exact Nat.le_trans (Nat.le_of_eq this) (by omega))).mono ?_; rintro _ w17 ⟨rfl, hb17⟩; rw [decide_eq_true (show ([] : List ByteArray) ++ [bZ] = ([] : List ByteArray) ++ [bZ] from rfl)]; have H17 := Lib.hid ((H13.out.2.2.below H16.out.2).below hb17); clear hb17)
                  | (go_at_call 22; refine (RL.out _).mono ?_; rintro _ w18 ⟨rfl, hb18⟩; have H18 := Lib.hid (H17.out.below hb18); clear hb18)
                  | (rw [if_pos (by rfl)]; refine op_many _ _ rfl (toLen (.slice none 0 0) 0) (([] : List ByteArray)) rfl rfl (Recs.nil _) hl9 ?_; intro v' w14 g1 g2 g3; have H14 := Lib.hid (And.intro g1 (And.intro g2 g3)); clear g1 g2 g3)
                  | (rw [if_pos (by rfl)]; refine op_one _ _ rfl v' (([] : List ByteArray)) rfl ⟨w12.heap.size, 0, none⟩ 1 bZ rfl H14.out.1 hl9 (cell_keep H14.out.2.1 (cell_keep H13.out.2.1 (HCL.out _ _))) ?_; intro v'' w16 h1 h2 h3; have H16 := Lib.hid (And.intro h1 (below_grown H14.out.2.1 h2 H14.out.2.2)); clear h1 h2 h3)
                  | (rw [if_pos (by rfl)]; refine op_one _ _ rfl v' (([] : List ByteArray)) rfl ⟨w13.heap.size, 0, none⟩ 1 bZ rfl H14.out.1 hl9 (cell_keep H14.out.2.1 (HCL.out _ _)) ?_; intro v'' w16 h1 h2 h3; have H16 := Lib.hid (And.intro h1 (below_grown ((((Below.refl w13.heap.size w13).alloc (Nat.le_refl _) _)).trans (H14.out.2.1.mono (by simp))) h2 (fun k hk => Nat.le_trans (by simp) (H14.out.2.2 k hk)))); clear h1 h2 h3)
                  | (rw [if_pos (by rfl)]; refine op_one _ _ rfl v' (([] : List ByteArray)) rfl ⟨w14.heap.size, 0, none⟩ 1 bZ rfl (H14.out.1.below ((Below.refl _ _).alloc (Nat.le_refl _) _)) hl9 (HCL.out _ _) ?_; intro v'' w16 h1 h2 h3; have H16 := Lib.hid (And.intro h1 (below_grown (H14.out.2.1.alloc H14.out.2.1.size _) h2 H14.out.2.2)); clear h1 h2 h3))
                all_goals
                  go_wp2_with fail
                  go_ret
                  exact ⟨rfl, H18.out.bl⟩
      · subst hv
        clear hA
        rcases hx with ⟨j1, j2⟩ | j1
        all_goals
          go_wp2_with fail
          refine (s_jread HS.out nLOG (by decide)).mono ?_
          rintro _ _ ⟨e, rfl⟩
          rw [RDT.out.1, RDT.out.2] at e
          subst e
          go_wp2_with fail
          refine (s_new 1048576 HS.out).mono ?_
          rintro _ w4 ⟨d, rfl, h4⟩
          rw [hr3.out] at h4
          have H4 := Lib.hid h4
          clear h4
          go_wp2_with fail
          refine (s_write H4.out (by decide) nLOG X (by decide)).mono ?_
          rintro _ w5 ⟨e, h5⟩
          rw [WR.out] at e h5
          subst e
          have H5 := Lib.hid h5.swap.drop
          clear h5
          go_wp2_with fail
          go_loopw [21] (fun nv wr2 => ∃ n : Nat, nv = .int .i64 n ∧ n ≤ m ∧ Hid (Sp w wr2 [ch d (one (1048576 - kN) X 0 false), rc (.slice (some ⟨g, o, none⟩) A.length cap') A, ri (.slice ead E.length ecap) E])) (fun nv _ => m - (intOf nv).toNat)
          case atStart => exact ⟨0, rfl, Nat.zero_le _, H5⟩
          case round =>
            obtain ⟨n, rfl, hn, HN⟩ := hrel
            by_cases hnm : n < m
            · obtain ⟨y, hy, hym⟩ := HEN.out n (by omega)
              obtain ⟨g2, cap2, hv2, hlc2, hc2⟩ := ints_cells HN.out.rot.ints (by omega)
              obtain ⟨rfl, rfl⟩ : ead = some ⟨g2, 0, none⟩ ∧ ecap = cap2 := by cases hv2; exact ⟨rfl, rfl⟩
              have q := hc2 n y hy
              have hyle : (y : Int) ≤ (kN : Int) := by have := hym.2 hnm; omega
              have n1 : (n : Int) < (E.length : Int) := by omega
              have n0 : (0 : Int) ≤ (n : Int) := by omega
              clear hy hym hc2 hv2
              go_wp2_with fail
              go_roundw
              case rel => exact ⟨n + 1, by go_num, by omega, HN⟩
              case measure => simp [intOf]; omega
            · by_cases hnA : n < A.length
              · obtain ⟨y, hy, hym⟩ := HEN.out n (by omega)
                obtain ⟨g2, cap2, hv2, hlc2, hc2⟩ := ints_cells HN.out.rot.ints (by omega)
                obtain ⟨rfl, rfl⟩ : ead = some ⟨g2, 0, none⟩ ∧ ecap = cap2 := by cases hv2; exact ⟨rfl, rfl⟩
                have q := hc2 n y hy
                have hyle : ¬ (y : Int) ≤ (kN : Int) := fun h => hnm (hym.1 (by omega))
                have n1 : (n : Int) < (E.length : Int) := by omega
                have n0 : (0 : Int) ≤ (n : Int) := by omega
                clear hy hym hc2 hv2
                go_wp2_with fail
                obtain rfl : n = m := by omega
                have hmA : n ≤ A.length := hm
                refine (s_open_ok HN.out HL.out (one_len _ _ _ _) HO.out).mono ?_
                rintro _ w7 ⟨j2, rfl, h7⟩
                have H7 := Lib.hid h7.cut2
                clear h7
                go_wp2_with fail
                have hL1 : (torJr (A.take n)).recs.length = n := HAM.out
                have hL2 : (torJr (A.take n ++ [bZ])).recs.length = n + 1 := by
                  show (A.take n ++ [bZ]).length = n + 1
                  rw [List.length_append, HAM.out]
                  rfl
                have HL1 := Lib.hid hL1
                have HL2 := Lib.hid hL2
                clear hL1 hL2
                have HD7 := Lib.hid (H7.out.below ((Below.refl _ _).drew))
                have hn0 : (0 : Int) ≤ (n : Int) := by omega
                have hnc : (n : Int) ≤ (cap' : Int) := by omega
                go_region_held3 (fun _ => True) (trivial) (first
                  | (go_at_call 21; refine (s_records HD7.out (by have := HL1.out; omega)).mono ?_; rintro _ w8 ⟨v8, rfl, ⟨ad8, cap8, rfl, hr8⟩, _, h8⟩; have H8 := Lib.hid (And.intro (show Reads w8 (.slice ad8 n cap8) (A.take n) from ⟨ad8, cap8, by rw [HAM.out], hr8⟩) h8); rw [HL1.out]; clear hr8 h8)
                  | (go_at_call 20; refine (jeq_p H8.out.1 (sp_take H8.out.2.swap hm).recs.reads (by have := HAM.out; omega)).mono ?_; rintro _ w9 ⟨rfl, hb9⟩; rw [decide_eq_true (show A.take n = A.take n from rfl)]; have H9 := Lib.hid (H8.out.2.below hb9); clear hb9)
                  | (go_at_call 18; refine (s_add H9.out HL.out (one_len _ _ _ _) (by have := HL1.out; omega) (by show (leavesS (bE :: A.take n)).size ≤ 1000000000; omega) bZ true).mono ?_; rintro _ w10 ⟨e, h10⟩; rw [HZ.out] at e h10; subst e; have H10 := Lib.hid h10; clear h10))
                go_wp2_with fail
                refine (s_jtear H10.out (Nat.le_trans (one_len _ _ _ _) (by decide)) 0).mono ?_
                rintro _ w11 ⟨d2, rfl, h11⟩
                have H11 := Lib.hid h11
                clear h11
                go_wp2_with fail
                refine (s_open_ok H11.out HL.out (Nat.le_trans (len_tear _ _) (one_len _ _ _ _)) HLAST.out).mono ?_
                rintro _ w12 ⟨j3, rfl, h12⟩
                have H12 := Lib.hid h12.swap.drop
                clear h12
                go_wp2_with fail
                have hcl : ∀ (W : World) (ty : TypeId), (W.alloc (.cells #[.string bZ] ty)).cell? ⟨W.heap.size, 0, none⟩ = some (.string bZ) := by
                  intro W ty
                  go_simp
                have HCL := Lib.hid hcl
                clear hcl
                have HD12 : Hid (∀ W, Below w12.heap.size w12 W → Sp w W [jc d2 j3 stL (torJr (A.take n ++ [bZ])), rc (.slice (some ⟨g, o, none⟩) A.length cap') A]) := Lib.hid (fun W hb => H12.out.below hb)
                have hl9 : (A.take n).length ≤ 2000000 := by omega
                go_region_held3 (fun _ => True) (trivial) (first
                  | (go_at_call 21; refine (s_records (HD12.out _ (by first | exact (Below.refl _ _).drew | exact ((Below.refl _ _).drew).alloc (Nat.le_refl _) _)) (by have := HL2.out; omega)).mono ?_; rintro _ w13 ⟨v13, rfl, ⟨ad13, cap13, rfl, hr13⟩, hb13, h13⟩; have H13 := Lib.hid (And.intro (show Reads w13 (.slice ad13 (n + 1) cap13) (A.take n ++ [bZ]) from ⟨ad13, cap13, by rw [← HL2.out]; rfl, hr13⟩) (And.intro hb13 h13.swap)); rw [HL2.out]; clear hr13 hb13 h13)
                  | (go_at_call 20; refine (jeq_p (H13.out.1.below H16.out.2) H16.out.1.reads (by have := HL2.out; exact Nat.le_trans (Nat.le_of_eq this) (by omega))).mono ?_; rintro _ w17 ⟨rfl, hb17⟩; rw [decide_eq_true (show A.take n ++ [bZ] = A.take n ++ [bZ] from rfl)]; have H17 := Lib.hid ((H13.out.2.2.below H16.out.2).below hb17); clear hb17)
                  | (go_at_call 22; refine (RL.out _).mono ?_; rintro _ w18 ⟨rfl, hb18⟩; have H18 := Lib.hid (H17.out.below hb18); clear hb18)
                  | (rw [if_pos (by rfl)]; refine op_many _ _ rfl (toLen (.slice (some ⟨g, o, none⟩) A.length cap') n) (A.take n) rfl rfl ((sp_take (H13.out.2.2.below (by first | exact Below.refl _ _ | exact (Below.refl _ _).alloc (Nat.le_refl _) _)) hm).recs) hl9 ?_; intro v' w14 g1 g2 g3; have H14 := Lib.hid (And.intro g1 (And.intro g2 g3)); clear g1 g2 g3)
                  | (rw [if_pos (by rfl)]; refine op_one _ _ rfl v' (A.take n) rfl ⟨w12.heap.size, 0, none⟩ 1 bZ rfl H14.out.1 hl9 (cell_keep H14.out.2.1 (cell_keep H13.out.2.1 (HCL.out _ _))) ?_; intro v'' w16 h1 h2 h3; have H16 := Lib.hid (And.intro h1 (below_grown H14.out.2.1 h2 H14.out.2.2)); clear h1 h2 h3)
                  | (rw [if_pos (by rfl)]; refine op_one _ _ rfl v' (A.take n) rfl ⟨w13.heap.size, 0, none⟩ 1 bZ rfl H14.out.1 hl9 (cell_keep H14.out.2.1 (HCL.out _ _)) ?_; intro v'' w16 h1 h2 h3; have H16 := Lib.hid (And.intro h1 (below_grown ((((Below.refl w13.heap.size w13).alloc (Nat.le_refl _) _)).trans (H14.out.2.1.mono (by simp))) h2 (fun k hk => Nat.le_trans (by simp) (H14.out.2.2 k hk)))); clear h1 h2 h3)
                  | (rw [if_pos (by rfl)]; refine op_one _ _ rfl v' (A.take n) rfl ⟨w14.heap.size, 0, none⟩ 1 bZ rfl (H14.out.1.below ((Below.refl _ _).alloc (Nat.le_refl _) _)) hl9 (HCL.out _ _) ?_; intro v'' w16 h1 h2 h3; have H16 := Lib.hid (And.intro h1 (below_grown (H14.out.2.1.alloc H14.out.2.1.size _) h2 H14.out.2.2)); clear h1 h2 h3))
                all_goals
                  go_wp2_with fail
                  go_ret
                  exact ⟨rfl, H18.out.bl⟩
              · have n1 : ¬ (n : Int) < (E.length : Int) := by omega
                go_wp2_with fail
                obtain rfl : n = m := by omega
                have hmA : n ≤ A.length := hm
                refine (s_open_ok HN.out HL.out (one_len _ _ _ _) HO.out).mono ?_
                rintro _ w7 ⟨j2, rfl, h7⟩
                have H7 := Lib.hid h7.cut2
                clear h7
                go_wp2_with fail
                have hL1 : (torJr (A.take n)).recs.length = n := HAM.out
                have hL2 : (torJr (A.take n ++ [bZ])).recs.length = n + 1 := by
                  show (A.take n ++ [bZ]).length = n + 1
                  rw [List.length_append, HAM.out]
                  rfl
                have HL1 := Lib.hid hL1
                have HL2 := Lib.hid hL2
                clear hL1 hL2
                have HD7 := Lib.hid (H7.out.below ((Below.refl _ _).drew))
                have hn0 : (0 : Int) ≤ (n : Int) := by omega
                have hnc : (n : Int) ≤ (cap' : Int) := by omega
                go_region_held3 (fun _ => True) (trivial) (first
                  | (go_at_call 21; refine (s_records HD7.out (by have := HL1.out; omega)).mono ?_; rintro _ w8 ⟨v8, rfl, ⟨ad8, cap8, rfl, hr8⟩, _, h8⟩; have H8 := Lib.hid (And.intro (show Reads w8 (.slice ad8 n cap8) (A.take n) from ⟨ad8, cap8, by rw [HAM.out], hr8⟩) h8); rw [HL1.out]; clear hr8 h8)
                  | (go_at_call 20; refine (jeq_p H8.out.1 (sp_take H8.out.2.swap hm).recs.reads (by have := HAM.out; omega)).mono ?_; rintro _ w9 ⟨rfl, hb9⟩; rw [decide_eq_true (show A.take n = A.take n from rfl)]; have H9 := Lib.hid (H8.out.2.below hb9); clear hb9)
                  | (go_at_call 18; refine (s_add H9.out HL.out (one_len _ _ _ _) (by have := HL1.out; omega) (by show (leavesS (bE :: A.take n)).size ≤ 1000000000; omega) bZ true).mono ?_; rintro _ w10 ⟨e, h10⟩; rw [HZ.out] at e h10; subst e; have H10 := Lib.hid h10; clear h10))
                go_wp2_with fail
                refine (s_jtear H10.out (Nat.le_trans (one_len _ _ _ _) (by decide)) 0).mono ?_
                rintro _ w11 ⟨d2, rfl, h11⟩
                have H11 := Lib.hid h11
                clear h11
                go_wp2_with fail
                refine (s_open_ok H11.out HL.out (Nat.le_trans (len_tear _ _) (one_len _ _ _ _)) HLAST.out).mono ?_
                rintro _ w12 ⟨j3, rfl, h12⟩
                have H12 := Lib.hid h12.swap.drop
                clear h12
                go_wp2_with fail
                have hcl : ∀ (W : World) (ty : TypeId), (W.alloc (.cells #[.string bZ] ty)).cell? ⟨W.heap.size, 0, none⟩ = some (.string bZ) := by
                  intro W ty
                  go_simp
                have HCL := Lib.hid hcl
                clear hcl
                have HD12 : Hid (∀ W, Below w12.heap.size w12 W → Sp w W [jc d2 j3 stL (torJr (A.take n ++ [bZ])), rc (.slice (some ⟨g, o, none⟩) A.length cap') A]) := Lib.hid (fun W hb => H12.out.below hb)
                have hl9 : (A.take n).length ≤ 2000000 := by omega
                go_region_held3 (fun _ => True) (trivial) (first
                  | (go_at_call 21; refine (s_records (HD12.out _ (by first | exact (Below.refl _ _).drew | exact ((Below.refl _ _).drew).alloc (Nat.le_refl _) _)) (by have := HL2.out; omega)).mono ?_; rintro _ w13 ⟨v13, rfl, ⟨ad13, cap13, rfl, hr13⟩, hb13, h13⟩; have H13 := Lib.hid (And.intro (show Reads w13 (.slice ad13 (n + 1) cap13) (A.take n ++ [bZ]) from ⟨ad13, cap13, by rw [← HL2.out]; rfl, hr13⟩) (And.intro hb13 h13.swap)); rw [HL2.out]; clear hr13 hb13 h13)
                  | (go_at_call 20; refine (jeq_p (H13.out.1.below H16.out.2) H16.out.1.reads (by have := HL2.out; exact Nat.le_trans (Nat.le_of_eq this) (by omega))).mono ?_; rintro _ w17 ⟨rfl, hb17⟩; rw [decide_eq_true (show A.take n ++ [bZ] = A.take n ++ [bZ] from rfl)]; have H17 := Lib.hid ((H13.out.2.2.below H16.out.2).below hb17); clear hb17)
                  | (go_at_call 22; refine (RL.out _).mono ?_; rintro _ w18 ⟨rfl, hb18⟩; have H18 := Lib.hid (H17.out.below hb18); clear hb18)
                  | (rw [if_pos (by rfl)]; refine op_many _ _ rfl (toLen (.slice (some ⟨g, o, none⟩) A.length cap') n) (A.take n) rfl rfl ((sp_take (H13.out.2.2.below (by first | exact Below.refl _ _ | exact (Below.refl _ _).alloc (Nat.le_refl _) _)) hm).recs) hl9 ?_; intro v' w14 g1 g2 g3; have H14 := Lib.hid (And.intro g1 (And.intro g2 g3)); clear g1 g2 g3)
                  | (rw [if_pos (by rfl)]; refine op_one _ _ rfl v' (A.take n) rfl ⟨w12.heap.size, 0, none⟩ 1 bZ rfl H14.out.1 hl9 (cell_keep H14.out.2.1 (cell_keep H13.out.2.1 (HCL.out _ _))) ?_; intro v'' w16 h1 h2 h3; have H16 := Lib.hid (And.intro h1 (below_grown H14.out.2.1 h2 H14.out.2.2)); clear h1 h2 h3)
                  | (rw [if_pos (by rfl)]; refine op_one _ _ rfl v' (A.take n) rfl ⟨w13.heap.size, 0, none⟩ 1 bZ rfl H14.out.1 hl9 (cell_keep H14.out.2.1 (HCL.out _ _)) ?_; intro v'' w16 h1 h2 h3; have H16 := Lib.hid (And.intro h1 (below_grown ((((Below.refl w13.heap.size w13).alloc (Nat.le_refl _) _)).trans (H14.out.2.1.mono (by simp))) h2 (fun k hk => Nat.le_trans (by simp) (H14.out.2.2 k hk)))); clear h1 h2 h3)
                  | (rw [if_pos (by rfl)]; refine op_one _ _ rfl v' (A.take n) rfl ⟨w14.heap.size, 0, none⟩ 1 bZ rfl (H14.out.1.below ((Below.refl _ _).alloc (Nat.le_refl _) _)) hl9 (HCL.out _ _) ?_; intro v'' w16 h1 h2 h3; have H16 := Lib.hid (And.intro h1 (below_grown (H14.out.2.1.alloc H14.out.2.1.size _) h2 H14.out.2.2)); clear h1 h2 h3))
                all_goals
                  go_wp2_with fail
                  go_ret
                  exact ⟨rfl, H18.out.bl⟩

end Go.Proofs.YtaekieoingflaaaGreatDoor
