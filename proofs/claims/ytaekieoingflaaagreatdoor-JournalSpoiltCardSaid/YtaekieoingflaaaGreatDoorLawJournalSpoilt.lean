/-
  JournalSpoilt answers true: a byte turned amid leaves.
-/
import Derived.Test.YtaekieoingflaaaGreatDoorBegun4
import Derived.Test.YtaekieoingflaaaGreatDoorJrG
namespace Go.Proofs.YtaekieoingflaaaGreatDoor
open Go.RowKit Go.Proofs.Flo Go.Proofs.Cpl Go.Sort Go.Proofs.Chest

theorem xor_byte (c : UInt8) (x : Int) (h0 : 0 ≤ x) (h1 : x ≤ 255) : bits BinOp.xor IntKind.u8 (c.toNat : Int) x = ((c ^^^ UInt8.ofNat x.toNat).toNat : Int) ∧ (c ^^^ UInt8.ofNat x.toNat = c ↔ x = 0) := by
  have hc := c.toNat_lt
  have e : (UInt8.ofNat x.toNat).toNat = x.toNat := by rw [UInt8.toNat_ofNat']; omega
  refine ⟨?_, ?_⟩
  · rw [u8_xor _ _ (by omega) (by omega) h0 (by omega), UInt8.toNat_xor, e]
    simp
  · constructor
    · intro h
      have h2 : (UInt8.ofNat x.toNat) = 0 := by
        have h3 : c ^^^ (c ^^^ UInt8.ofNat x.toNat) = c ^^^ c := by rw [h]
        rw [← UInt8.xor_assoc, UInt8.xor_self, UInt8.zero_xor] at h3
        exact h3
      have h4 := congrArg UInt8.toNat h2
      rw [e] at h4
      have : (0 : UInt8).toNat = 0 := rfl
      omega
    · rintro rfl
      show c ^^^ 0 = c
      exact UInt8.xor_zero

theorem getR_kind {t : ByteArray} (hc : (cutP t).2.2 = 0) (hn : (t.extract ((cutP t).2.1 - 1) (cutP t).2.1).data.toList ≠ [44]) : (∃ x, getR t = .ok x ∧ x.k ≠ 2) ∨ getR t = .error 1 := by
  unfold getR
  rw [getP, if_pos hc, if_neg (by decide)]
  simp only
  split
  · split
    · exact .inl ⟨_, rfl, (by decide : (1 : Int) ≠ 2)⟩
    · exact .inr rfl
  · try rw [if_neg hn]
    split
    · split
      · exact .inl ⟨_, rfl, (by decide : (3 : Int) ≠ 2)⟩
      · exact .inr rfl
    · exact .inr rfl

/-- Turn, at eight bytes and more. -/
theorem turn_parts (M F : ByteArray) (h8 : M.size = 8) : (turnS (M ++ F)).2.2 = if markedB M = false then 3 else match getR F with
    | .error e => if e = 2 then 2 else 3
    | .ok x => if x.k = 2 ∧ markS x.s = M then 0 else 3 := by
  have e1 : (M ++ F).extract 0 8 = M := by
    rw [extract_fst _ _ _ (by omega), ← h8, extract_all]
  have e2 : (M ++ F).extract 8 (M ++ F).size = F := by
    have := extract_app M F
    rw [h8] at this
    exact this
  have e3 : 8 ≤ (M ++ F).size := by
    rw [ByteArray.size_append]
    omega
  unfold turnS
  rw [pad_whole e3, e1, e2]
  split
  · rfl
  · rw [if_neg (by omega)]
    cases getR F with
    | error e => rfl
    | ok x =>
      simp only
      split <;> rfl

theorem arr_list {t : ByteArray} {l : List UInt8} (h : t.data.toList = l) : (⟨l.toArray⟩ : ByteArray) = t := by
  subst h
  simp

theorem app_list {a b : ByteArray} {l : List UInt8} (h : a.data.toList ++ b.data.toList = l) : (⟨l.toArray⟩ : ByteArray) = a ++ b := by
  apply arr_list
  rw [append_toList]
  exact h

theorem no_frame (s E : ByteArray) (hs : s.size ≤ 400000) (M : ByteArray) (h8 : M.size = 8) (hM : markS s ≠ M) : (turnS (M ++ (frameS s ⟨#[44]⟩ ++ E))).2.2 = 3 := by
  rw [turn_parts _ _ h8, getR_frame s E (by omega)]
  simp only
  split
  · rfl
  · rw [if_neg (fun h => hM h.2)]

/-- A byte of a leaf that was turned, but of a length, is told, whatever is behind it. -/
theorem turn_spoilt (s : ByteArray) (hs : s.size ≤ 400000) (k : Nat) (hk : k < (leafS s).size) (c : UInt8) (hc : some c ≠ (leafS s).data.toList[k]?) (hz : ¬ (8 ≤ k ∧ k < 9 + Lib.nDigits s.size)) (E : ByteArray) :
    (turnS (⟨((leafS s).data.toList.set k c).toArray⟩ ++ E)).2.2 = 3 := by
  have h8 := markS_size s
  have hz2 := leafS_size hs
  by_cases h1 : k < 8
  · obtain ⟨M, hM⟩ : ∃ M : ByteArray, M.data.toList = (markS s).data.toList.set k c := ⟨⟨((markS s).data.toList.set k c).toArray⟩, rfl⟩
    have hM8 : M.size = 8 := by
      show M.data.toList.length = 8
      rw [hM, List.length_set]
      exact h8
    have hkm : k < (markS s).data.toList.length := by show k < (markS s).size; omega
    have e : (⟨((leafS s).data.toList.set k c).toArray⟩ : ByteArray) = M ++ frameS s ⟨#[44]⟩ := by
      apply app_list
      rw [leafS_eq hs, append_toList, List.set_append_left _ _ hkm, hM]
    rw [e, ByteArray.append_assoc]
    refine no_frame s E hs M hM8 (fun e2 => ?_)
    have h3 : (markS s).data.toList[k]? = some c := by rw [e2, hM, List.getElem?_set_self hkm]
    apply hc
    rw [leafS_eq hs, append_toList, List.getElem?_append_left hkm, h3]
  · have h2 : 9 + Lib.nDigits s.size ≤ k := by omega
    have hd : (Lib.decDigits s.size).length = Lib.nDigits s.size := Lib.decDigits_length _
    have hP : ((markS s).data.toList ++ (Lib.decDigits s.size ++ [58])).length = 9 + Lib.nDigits s.size := by
      simp only [List.length_append, List.length_singleton, hd]
      show (markS s).size + _ = _
      omega
    have hl : (leafS s).data.toList = ((markS s).data.toList ++ (Lib.decDigits s.size ++ [58])) ++ (s.data.toList ++ [44]) := by
      rw [leafS_eq hs, append_toList, frame_list _ _ (by omega)]
      simp
    obtain ⟨j, rfl⟩ : ∃ j, k = 9 + Lib.nDigits s.size + j := ⟨k - (9 + Lib.nDigits s.size), by omega⟩
    have hset : (leafS s).data.toList.set (9 + Lib.nDigits s.size + j) c = ((markS s).data.toList ++ (Lib.decDigits s.size ++ [58])) ++ (s.data.toList ++ [44]).set j c := by
      rw [hl, List.set_append_right _ _ (by rw [hP]; omega), hP, Nat.add_sub_cancel_left]
    have hget : (leafS s).data.toList[9 + Lib.nDigits s.size + j]? = (s.data.toList ++ [44])[j]? := by
      rw [hl, List.getElem?_append_right (by rw [hP]; omega), hP, Nat.add_sub_cancel_left]
    rw [hget] at hc
    rw [hset]
    by_cases hj : j < s.size
    · obtain ⟨s', hs'⟩ : ∃ s' : ByteArray, s'.data.toList = s.data.toList.set j c := ⟨⟨(s.data.toList.set j c).toArray⟩, rfl⟩
      have hsz : s'.size = s.size := by
        show s'.data.toList.length = _
        rw [hs', List.length_set]
        rfl
      have hjl : j < s.data.toList.length := hj
      have e : (⟨(((markS s).data.toList ++ (Lib.decDigits s.size ++ ([58] : List UInt8))) ++ (s.data.toList ++ ([44] : List UInt8)).set j c).toArray⟩ : ByteArray) = markS s ++ frameS s' ⟨#[44]⟩ := by
        apply app_list
        rw [frame_list _ _ (by omega), hsz, List.set_append_left _ _ hjl, hs']
        simp
      rw [e, ByteArray.append_assoc]
      refine no_frame s' E (by omega) (markS s) h8 (fun hm => ?_)
      have h3 := IsText.one (markS_is s') (by rw [hm]; exact markS_is s)
      rw [hs', mark_turned _ _ hjl] at h3
      rw [List.getElem?_append_left hjl, List.getElem?_eq_getElem hjl] at hc
      exact hc (by rw [h3])
    · have hj' : j = s.size := by omega
      subst hj'
      have e : (⟨(((markS s).data.toList ++ (Lib.decDigits s.size ++ ([58] : List UInt8))) ++ (s.data.toList ++ ([44] : List UInt8)).set s.size c).toArray⟩ : ByteArray) = markS s ++ frameS s ⟨#[c]⟩ := by
        apply app_list
        rw [frame_list _ _ (by omega), show s.size = s.data.toList.length from rfl, List.set_append_right _ _ (Nat.le_refl s.data.toList.length), Nat.sub_self]
        simp
      rw [e, ByteArray.append_assoc, turn_parts _ _ h8]
      have h44 : c ≠ 44 := by
        rw [show (s.data.toList ++ [44])[s.size]? = (s.data.toList ++ [44])[s.data.toList.length]? from rfl, List.getElem?_append_right (Nat.le_refl s.data.toList.length), Nat.sub_self] at hc
        intro e
        rw [e] at hc
        exact hc rfl
      obtain ⟨c1, c2⟩ := cut_frame s ⟨#[c]⟩ E (by omega) rfl
      have hn : ((frameS s ⟨#[c]⟩ ++ E).extract ((cutP (frameS s ⟨#[c]⟩ ++ E)).2.1 - 1) (cutP (frameS s ⟨#[c]⟩ ++ E)).2.1).data.toList ≠ [44] := by
        rw [c1]
        simp only
        rw [c2]
        intro e
        exact h44 (by simpa using e)
      rcases getR_kind (by rw [c1]) hn with ⟨x, hx, hx2⟩ | hx
      · rw [hx]
        simp only
        split
        · rfl
        · rw [if_neg (fun h => hx2 h.1)]
      · rw [hx]
        simp

theorem leavesS_split (L : List ByteArray) (i : Nat) (x : ByteArray) (hi : L[i]? = some x) : leavesS L = leavesS (L.take i) ++ (leafS x ++ leavesS (L.drop (i + 1))) := by
  obtain ⟨hi', rfl⟩ := List.getElem?_eq_some_iff.1 hi
  conv => lhs; rw [← List.take_append_drop i L, leavesS_append, List.drop_eq_getElem_cons hi']
  rfl

/-- A byte of leaves that was turned, but of a length: Open tells it. -/
theorem open_spoilt (L : List ByteArray) (hL : ∀ y ∈ L, y.size ≤ 400000) (a i : Nat) (x : ByteArray) (hi : L[i]? = some x) (h1 : (leavesS (L.take i)).size ≤ a) (h2 : a < (leavesS (L.take i)).size + (leafS x).size)
    (c : UInt8) (hc : some c ≠ (leavesS L).data.toList[a]?) (hz : ¬ ((leavesS (L.take i)).size + 8 ≤ a ∧ a < (leavesS (L.take i)).size + 9 + Lib.nDigits x.size)) (room : Nat) :
    (openS (one room ⟨((leavesS L).data.toList.set a c).toArray⟩ 0 false)).1 = 3 := by
  obtain ⟨hi', hix⟩ := List.getElem?_eq_some_iff.1 hi
  have hx : x.size ≤ 400000 := hL x (by rw [← hix]; exact List.getElem_mem hi')
  obtain ⟨k, rfl⟩ : ∃ k, a = (leavesS (L.take i)).size + k := ⟨a - (leavesS (L.take i)).size, by omega⟩
  have hsp := leavesS_split L i x hi
  have hPl : (leavesS (L.take i)).data.toList.length = (leavesS (L.take i)).size := rfl
  have hxl : k < (leafS x).data.toList.length := by show k < (leafS x).size; omega
  have e : (⟨((leavesS L).data.toList.set ((leavesS (L.take i)).size + k) c).toArray⟩ : ByteArray) = leavesS (L.take i) ++ (⟨((leafS x).data.toList.set k c).toArray⟩ ++ leavesS (L.drop (i + 1))) := by
    apply app_list
    rw [hsp, append_toList, append_toList, append_toList, List.set_append_right _ _ (by omega), hPl, Nat.add_sub_cancel_left, List.set_append_left _ _ hxl]
  rw [e]
  have hck : some c ≠ (leafS x).data.toList[k]? := by
    rw [hsp, append_toList, append_toList, List.getElem?_append_right (by omega), hPl, Nat.add_sub_cancel_left, List.getElem?_append_left hxl] at hc
    exact hc
  refine open_bad room 0 false (L.take i) _ (fun y hy => hL y (List.mem_of_mem_take hy)) ?_ (turn_spoilt x hx k (by omega) c hck (by omega) _)
  rw [ByteArray.size_append]
  have : (⟨((leafS x).data.toList.set k c).toArray⟩ : ByteArray).size = (leafS x).size := by
    show ((leafS x).data.toList.set k c).toArray.size = _
    rw [List.size_toArray, List.length_set]
    rfl
  omega

end Go.Proofs.YtaekieoingflaaaGreatDoor
namespace Go.Proofs.YtaekieoingflaaaGreatDoor
open Go.RowKit Go.Maps Go.Proofs.MapD Go.Proofs.Chest

def spoSt (A : List ByteArray) : St := one (1048576 - (leavesS (bE :: A)).size) (leavesS (bE :: A)) (leavesS (bE :: A)).size true
def spoJr (A : List ByteArray) : Jr := ⟨bE, A, (leavesS (bE :: A)).size, false⟩

theorem spo_start : openS ⟨1048576, []⟩ = (0, spoSt [], spoJr []) := by
  have e : leavesS [bE] = leafS ⟨#[]⟩ := leaves_one bE
  rw [open_none 1048576 (by omega)]
  unfold spoSt spoJr
  rw [e, leaf0_size]
  rfl

theorem spo_snoc (A : List ByteArray) (s : ByteArray) : leavesS (bE :: (A ++ [s])) = leavesS (bE :: A) ++ leafS s := leavesS_snoc (bE :: A) s

theorem spo_add (A : List ByteArray) (s : ByteArray) (hs : s.size ≤ 400000) (h : (leavesS (bE :: A)).size + (leafS s).size ≤ 1048576) : addS (spoSt A) (spoJr A) s true = (0, spoSt (A ++ [s]), spoJr (A ++ [s])) := by
  unfold spoSt spoJr
  rw [add_one _ _ _ _ _ _ _ s hs (by omega) true, spo_snoc, ByteArray.size_append]
  simp only [if_true]
  rw [Nat.sub_sub]
  rfl

theorem spo_len (A : List ByteArray) : (spoSt A).l.length ≤ 900 := (by decide : 1 ≤ 900)
theorem spo_read (A : List ByteArray) : readS (spoSt A) nLOG = (leavesS (bE :: A), true) := one_read

theorem one_len (room : Nat) (t : ByteArray) (p : Nat) (s : Bool) : (one room t p s).l.length ≤ 900 := (by decide : 1 ≤ 900)

def lensL (L : List ByteArray) : List Nat := L.map fun s => (leafS s).size

theorem lensL_get (L : List ByteArray) (i : Nat) (x : ByteArray) (h : L[i]? = some x) : (lensL L)[i]? = some (leafS x).size := by
  unfold lensL
  rw [List.getElem?_map, h]
  rfl

theorem spo_step (L : List ByteArray) (n : Nat) (x : ByteArray) (h : L[n]? = some x) : (leavesS (L.take (n + 1))).size = (leavesS (L.take n)).size + (leafS x).size := by
  obtain ⟨hn, rfl⟩ := List.getElem?_eq_some_iff.1 h
  rw [List.take_succ_eq_append_getElem hn, leavesS_snoc, ByteArray.size_append]

/-- The bytes of a leaf's length. -/
theorem spo_byte (L : List ByteArray) (n : Nat) (x : ByteArray) (h : L[n]? = some x) (hx : x.size ≤ 400000) (j : Nat) (hj : j ≤ Lib.nDigits x.size) :
    ∃ c : UInt8, (leavesS L).data.toList[(leavesS (L.take n)).size + 8 + j]? = some c ∧ (c.toNat = 58 ↔ j = Lib.nDigits x.size) := by
  have h8 := markS_size x
  have hd : (Lib.decDigits x.size).length = Lib.nDigits x.size := Lib.decDigits_length _
  have hPl : (leavesS (L.take n)).data.toList.length = (leavesS (L.take n)).size := rfl
  have hM : (markS x).data.toList.length = 8 := h8
  have hl : (leafS x).data.toList = (markS x).data.toList ++ ((Lib.decDigits x.size ++ [58]) ++ (x.data.toList ++ [44])) := by
    rw [leafS_eq hx, append_toList, frame_list _ _ (by omega)]
    simp
  rw [leavesS_split L n x h, append_toList, append_toList, List.getElem?_append_right (by omega), hPl, show (leavesS (L.take n)).size + 8 + j - (leavesS (L.take n)).size = 8 + j by omega, hl,
    List.append_assoc, List.getElem?_append_right (by omega), hM, Nat.add_sub_cancel_left, List.append_assoc, List.append_assoc]
  by_cases hj2 : j < Lib.nDigits x.size
  · have hj3 : j < (Lib.decDigits x.size).length := by omega
    rw [List.getElem?_append_left hj3, List.getElem?_eq_getElem hj3]
    have := dig_all x.size _ (List.getElem_mem hj3)
    exact ⟨_, rfl, by omega⟩
  · have e : j = Lib.nDigits x.size := by omega
    rw [List.getElem?_append_right (by omega), hd, e, Nat.sub_self]
    exact ⟨58, rfl, by simp⟩

theorem spo_front (k : Nat) (hk : k < (leafS bE).size) : write ⟨1000, []⟩ nLOG ((leafS bE).extract 0 k) = (0, one (1000 - k) ((leafS bE).extract 0 k) 0 false) ∧ (openS (one (1000 - k) ((leafS bE).extract 0 k) 0 false)).1 = 3 := by
  have hz := z_E
  have e : ((leafS bE).extract 0 k).size = k := by rw [ByteArray.size_extract]; omega
  refine ⟨?_, open_empty _ _ _ _ (.inr (by rw [turn_front bE (by decide) k hk]))⟩
  rw [one_write0 ok_LOG _ (by omega), e]
  rfl

/-- Bytes in a block of their own. -/
def bts (b : Nat) (l : List UInt8) : It where
  p w F := (BytesAt w b 0 l ∧ b < w.heap.size) ∧ F = [b]
  kept := by
    rintro w w' F ⟨⟨h1, h2⟩, rfl⟩ hk
    have e := hk b (by simp)
    refine ⟨⟨fun i hi => by rw [cell_of_block e]; exact h1 i hi, ?_⟩, rfl⟩
    rw [Array.getElem?_eq_getElem h2] at e
    exact (Array.getElem?_eq_some_iff.1 e).1
  lt := by
    rintro w F ⟨⟨_, h2⟩, rfl⟩ k hk
    obtain rfl : k = b := by simpa using hk
    exact h2

theorem Sp.bytes {w0 w : World} {b : Nat} {l : List UInt8} {L : List It} (h : Sp w0 w (bts b l :: L)) : BytesAt w b 0 l := by
  obtain ⟨F, ⟨h1, _⟩, _⟩ := h.get
  exact h1

theorem conv_bytesAt {w : World} {b cap : Nat} {l : List UInt8} (h : BytesAt w b 0 l) : (convert 50 9 (.slice (some ⟨b, 0, none⟩) l.length cap)).run Tryz.prog w = .ok (.string ⟨l.toArray⟩) w :=
  run_convert_bytes_back (P := Tryz.prog) w 50 9 5 ⟨b, 0, none⟩ cap l Tryz.underlying50 Tryz.underlying5 Tryz.underlying9 (fun j hj => by
    rw [Addr.add_lit]
    exact h j hj)

theorem spo_small {A : List ByteArray} (h : ∀ x ∈ A, x.size ≤ 60) : ∀ x ∈ bE :: A, x.size ≤ 400000 := by
  intro x hx
  rcases List.mem_cons.1 hx with rfl | hx
  · decide
  · have := h x hx; omega

/-- What the first loop keeps. -/
def SpoRel (len c j : Nat) (w : World) (tv ev iv : Value) (wr : World) : Prop :=
  ∃ (k z : Nat) (A : List ByteArray) (T : ByteArray) (ve : Value), ve = ev ∧ tv = .string T ∧ iv = .int .i64 k ∧ k ≤ 6 ∧ k ≤ len ∧ A.length ≤ k ∧ z ≤ 11 + 100 * k ∧ Hid (leavesS (bE :: A) = T ∧ T.size = z ∧ ∀ x ∈ A, x.size ≤ 60) ∧
    Hid (Sp w wr [jc c j (spoSt A) (spoJr A), ri ve (lensL (bE :: A))])

set_option maxRecDepth 100000 in
set_option maxHeartbeats 8000000 in
theorem journalSpoilt_walk (v : Value) (len : Nat) (cs : Nat → ByteArray) (b off cap : Nat) (ad : Option Addr) (hv : v = .slice ad len cap) (had : 0 < len → ad = some ⟨b, off, none⟩) (at' x : Int) (more : ByteArray) (w : World) (hbg : BegunTrue4) (h : LibAt w) (hx0 : 0 ≤ x) (hx1 : x ≤ 255)
    (hl : len ≤ 9223372036854775807) (hb : 0 < len → b < w.heap.size) (hc : ∀ i, i < len → w.cell? ⟨b, off + i, none⟩ = some (.string (cs i))) :
    Calls Tryz.prog 6 #[v, .int .i64 at', .int .u8 x, .string more] w fun e w' => e = .returned (.bool true) ∧ Below w.heap.size w w' := by
  subst hv
  have HB := Lib.hid (hbg w h)
  have HL := Lib.hid h
  have HC := Lib.hid hc
  have HBL := Lib.hid hb
  have HAD := Lib.hid had
  have hr3 : Hid ((min (max (1048576 : Int) 0) 1048576).toNat = 1048576) := Lib.hid (by omega)
  have hr4 : Hid ((min (max (1000 : Int) 0) 1048576).toNat = 1000) := Lib.hid (by omega)
  have RL := Lib.hid (rleaf_p bE (by decide))
  have hH0 : 11 ≤ (leafS bE).size := Nat.le_of_eq z_E.symm
  have hH1 : (leafS bE).size ≤ 11 := Nat.le_of_eq z_E
  have HFR := Lib.hid spo_front
  have HLB := Lib.hid (show leavesS [bE] = leafS bE from leaves_one bE)
  have HLL := Lib.hid (show lensL [bE] = [(leafS bE).size] from rfl)
  generalize leafS bE = H at *
  clear hbg h hc hb had
  by_cases hneg : at' < 0 ∨ x = 0
  · have hcase : at' < 0 ∨ (¬ at' < 0 ∧ (x == 0) = true) := by
      rcases hneg with h1 | h1
      · exact .inl h1
      · by_cases h2 : at' < 0
        · exact .inl h2
        · exact .inr ⟨h2, by rw [beq_iff_eq]; exact h1⟩
    clear hneg
    rcases hcase with hn | ⟨hn, hx⟩
    all_goals
      go_enter Tryz.func6, Tryz.ntmps6
      go_wp2_with fail
      refine HB.out.mono ?_
      rintro _ w1 ⟨rfl, hb1⟩
      have H1 := Lib.hid (Sp.of_below hb1)
      clear hb1
      go_wp2_with fail
      refine (s_new 1048576 H1.out).mono ?_
      rintro _ w2 ⟨c, rfl, h2⟩
      rw [hr3.out] at h2
      have H2 := Lib.hid h2
      clear h2
      go_wp2_with fail
      refine (s_open_ok H2.out HL.out (Nat.zero_le _) spo_start).mono ?_
      rintro _ w3 ⟨j, rfl, h3⟩
      have H3 := Lib.hid h3
      clear h3
      go_wp2_with fail
      go_ret
      exact ⟨rfl, H3.out.bl⟩
  have hn1 : ¬ at' < 0 := fun h => hneg (.inl h)
  have hn2 : ¬ x = 0 := fun h => hneg (.inr h)
  have hn3 : (x == 0) = false := by rw [beq_eq_false_iff_ne]; exact hn2
  clear hneg
  go_enter Tryz.func6, Tryz.ntmps6
  go_wp2_with fail
  refine HB.out.mono ?_
  rintro _ w1 ⟨rfl, hb1⟩
  have H1 := Lib.hid (Sp.of_below hb1)
  clear hb1
  go_wp2_with fail
  refine (s_new 1048576 H1.out).mono ?_
  rintro _ w2 ⟨c, rfl, h2⟩
  rw [hr3.out] at h2
  have H2 := Lib.hid h2
  clear h2
  go_wp2_with fail
  refine (s_open_ok H2.out HL.out (Nat.zero_le _) spo_start).mono ?_
  rintro _ w3 ⟨j, rfl, h3⟩
  have H3 := Lib.hid h3
  clear h3
  go_wp2_with fail
  refine (RL.out _).mono ?_
  rintro _ w4 ⟨rfl, hb4⟩
  have H4 := Lib.hid (H3.out.below hb4)
  clear hb4
  have H5 : Hid (Sp w (w4.alloc (.cells #[.int .i64 H.size] 3)) [ri (.slice (some ⟨w4.heap.size, 0, none⟩) 1 1) (lensL [bE]), jc c j (spoSt []) (spoJr [])]) := Lib.hid (H4.out.new ((Below.refl _ _).alloc (Nat.le_refl _) _) ⟨[w4.heap.size], ⟨by
    rw [HLL.out]
    exact World.ownsRow_lit w4 #[.int .i64 H.size] 1 (Nat.zero_le _) (by unfold maxLen; omega) rfl, rfl⟩, by simp⟩)
  go_wp2_with fail
  refine (RL.out _).mono ?_
  rintro _ w6 ⟨rfl, hb6⟩
  have H6 := Lib.hid (H5.out.below hb6).swap
  clear hb6
  go_wp2_with fail
  go_loopw [13, 14, 15] (fun tv ev iv wr => SpoRel len c j w tv ev iv wr) (fun _ _ iv _ => 6 - (intOf iv).toNat)
  case atStart => exact ⟨0, 11, [], H, _, rfl, rfl, rfl, by omega, by omega, Nat.le_refl _, by omega, Lib.hid ⟨HLB.out, by omega, by simp⟩, H6⟩
  case round =>
    obtain ⟨k, z, A, T, ve, hve, rfl, rfl, hk, hkl, hA, hz, HA, HS⟩ := hrel
    subst hve
    have hTz0 : T.size ≤ 11 + 100 * k := by have := HA.out.2.1; omega
    have hTz : T.size ≤ 2000 := by omega
    by_cases hin : k < len ∧ k < 6
    · obtain ⟨h1, h2⟩ := hin
      obtain rfl := HAD.out (by omega)
      have hcell : wr.cell? ⟨b, off + k, none⟩ = some (.string (cs k)) := by rw [HS.out.bl.cell (HBL.out (by omega))]; exact HC.out k h1
      have C3 := Lib.hid (cut_any (cs k) 40)
      have hSz := cutS_size (cs k) 40
      generalize cutS (cs k) 40 = X at *
      have j1 : (k : Int) < (len : Int) := by omega
      have j2 : (k : Int) < 6 := by omega
      have hq2 : (leafS X).size ≤ 100 := by
        rw [leafS_size (by omega)]
        have := Lib.nDigits_le20 X.size (by omega)
        omega
      have ha := spo_add A X (by omega) (by rw [HA.out.1]; omega)
      have HADD := Lib.hid (s_add HS.out HL.out (spo_len A) (by show A.length ≤ 1000000; omega) (by show (leavesS (bE :: A)).size ≤ 1000000000; rw [HA.out.1]; omega) X true)
      rw [ha] at HADD
      have RX := Lib.hid (rleaf_p X (by omega))
      have HE : Hid (leavesS (bE :: (A ++ [X])) = T ++ leafS X ∧ (T ++ leafS X).size = z + (leafS X).size ∧ ∀ x ∈ A ++ [X], x.size ≤ 60) := Lib.hid ⟨by rw [spo_snoc, HA.out.1], by rw [ByteArray.size_append, HA.out.2.1], fun x hx => by
        rcases List.mem_append.1 hx with hx | hx
        · exact HA.out.2.2 x hx
        · obtain rfl : x = X := by simpa using hx
          omega⟩
      have HEL : Hid (lensL (bE :: (A ++ [X])) = lensL (bE :: A) ++ [(leafS X).size]) := Lib.hid (by simp [lensL])
      have hLl : (lensL (bE :: A)).length ≤ 100 := by unfold lensL; rw [List.length_map, List.length_cons]; omega
      generalize leafS X = Y at *
      have hcl2 : ∀ (W : World) (ty : TypeId), (W.alloc (.cells #[.int .i64 Y.size] ty)).cell? ⟨W.heap.size, 0, none⟩ = some (.int .i64 Y.size) := by
        intro W ty
        go_simp
      have HCL2 := Lib.hid hcl2
      clear hcl2 ha
      go_wp2_with fail
      refine (C3.out _).mono ?_
      rintro _ _ ⟨rfl, rfl⟩
      go_wp2_with fail
      refine HADD.out.mono ?_
      rintro _ w7 ⟨rfl, h7⟩
      have H7 := Lib.hid h7
      clear h7
      go_wp2_with fail
      refine (RX.out _).mono ?_
      rintro _ w8 ⟨rfl, hb8⟩
      have H8 := Lib.hid (H7.out.below hb8)
      clear hb8
      go_wp2_with fail
      refine (RX.out _).mono ?_
      rintro _ w9 ⟨rfl, hb9⟩
      have H9 : Hid (∀ ty, Sp w (w9.alloc (.cells #[.int .i64 Y.size] ty)) [ri ve (lensL (bE :: A)), jc c j (spoSt (A ++ [X])) (spoJr (A ++ [X]))]) := Lib.hid (fun ty => ((H8.out.below hb9).below ((Below.refl _ _).alloc (Nat.le_refl _) _)).swap)
      clear hb9
      go_wp2_with (at_builtin; refine wpList_append_int rfl _ _ rfl ve (lensL (bE :: A)) rfl (H9.out _) (by omega) ⟨w9.heap.size, 0, none⟩ 1 Y.size rfl (HCL2.out _ _) ?_; intro ve' w10 h10; rw [← HEL.out] at h10; have H10 := Lib.hid h10.swap; clear h10)
      go_roundw
      case rel => exact ⟨k + 1, z + Y.size, A ++ [X], T ++ Y, _, rfl, rfl, by go_num, by omega, by omega, by simp; omega, by omega, HE, H10⟩
      case measure => simp [intOf]; omega
    · have RDT : Hid ((readS (spoSt A) nLOG).1 = T ∧ (readS (spoSt A) nLOG).2 = true) := Lib.hid (by rw [spo_read, HA.out.1]; exact ⟨rfl, rfl⟩)
      have hT11 : 11 ≤ T.size := by
        rw [← HA.out.1]
        show 11 ≤ (leafS bE ++ leavesS A).size
        rw [ByteArray.size_append, z_E]
        omega
      obtain ⟨a, ha⟩ : ∃ a : Nat, at' % (T.size : Int) = (a : Int) := ⟨(at' % (T.size : Int)).toNat, by have := Int.emod_nonneg at' (show (T.size : Int) ≠ 0 by omega); omega⟩
      have hal : a < T.size := by have := Int.emod_lt_of_pos at' (show (0 : Int) < (T.size : Int) by omega); omega
      obtain ⟨cb, hcb⟩ : ∃ cb, T.data.toList[a]'hal = cb := ⟨_, rfl⟩
      obtain ⟨hxor, hxz⟩ := xor_byte cb x hx0 hx1
      obtain ⟨c', hc'⟩ : ∃ c', cb ^^^ UInt8.ofNat x.toNat = c' := ⟨_, rfl⟩
      rw [hc'] at hxor hxz
      have HNE : Hid (some c' ≠ T.data.toList[a]?) := Lib.hid (fun e => by
        rw [List.getElem?_eq_getElem hal, hcb] at e
        exact hn2 (hxz.1 (Option.some.inj e)))
      have HCELL : Hid (∀ w, (Lib.bytesWorld w 5 T).cell? ⟨w.heap.size, a, none⟩ = some (.int .u8 (cb.toNat : Int))) := Lib.hid (by
        intro w
        have := bytesAt_str w 5 T a hal
        rw [Nat.zero_add, hcb] at this
        exact this)
      have HFREE : Hid (∀ w, (Lib.bytesWorld w 5 T).frozen? ⟨w.heap.size, a, none⟩ = false) := Lib.hid (fun w => bytesWorld_free w 5 T a hal)
      have hll : (T.data.toList.set a c').length = T.size := by rw [List.length_set]; rfl
      have HBY : Hid (∀ W (LST : List It), Sp w W LST → Sp w ((Lib.bytesWorld W 5 T).setCell ⟨W.heap.size, a, none⟩ (.int .u8 (c'.toNat : Int))) (bts W.heap.size (T.data.toList.set a c') :: LST)) := Lib.hid (fun W LST h => h.new ((Lib.bytesWorld_below W 5 T).setCell (Nat.le_refl _) _) ⟨[W.heap.size], ⟨⟨(bytesAt_str W 5 T).set a hal c', by
        have hz := (bytesAt_str W 5 T).set a hal c' 0 (by rw [List.length_set]; show 0 < T.size; omega)
        exact World.block_lt_of_cell? _ _ hz⟩, rfl⟩, by simp⟩)
      obtain ⟨LS, hLS⟩ : ∃ LS, LS = bE :: A := ⟨_, rfl⟩
      have hLT : leavesS LS = T := by rw [hLS]; exact HA.out.1
      have hLl : LS.length ≤ 7 := by rw [hLS, List.length_cons]; omega
      have hLA : LS.length = A.length + 1 := by rw [hLS]; rfl
      have hLsm : ∀ y ∈ LS, y.size ≤ 400000 := by rw [hLS]; exact spo_small HA.out.2.2
      have HSR : Hid (Sp w wr [jc c j (spoSt A) (spoJr A), ri ve (lensL LS)]) := by rw [hLS]; exact HS
      obtain ⟨TT, hTT⟩ : ∃ TT : ByteArray, (⟨(T.data.toList.set a c').toArray⟩ : ByteArray) = TT := ⟨_, rfl⟩
      have hTTz : TT.size = T.size := by
        rw [← hTT]
        exact hll
      have WR : Hid (write ⟨1048576, []⟩ nLOG TT = (0, one (1048576 - TT.size) TT 0 false)) := Lib.hid (one_write0 ok_LOG TT (by omega))
      have HOP : Hid (∀ n y, LS[n]? = some y → (leavesS (LS.take n)).size ≤ a → a < (leavesS (LS.take n)).size + (leafS y).size → (openS (one (1048576 - TT.size) TT 0 false)).1 = 3 ∨ ((leavesS (LS.take n)).size + 8 ≤ a ∧ a < (leavesS (LS.take n)).size + 9 + Lib.nDigits y.size)) := Lib.hid (fun n y hy h1 h2 => by
        by_cases hz : (leavesS (LS.take n)).size + 8 ≤ a ∧ a < (leavesS (LS.take n)).size + 9 + Lib.nDigits y.size
        · exact .inr hz
        · have := open_spoilt LS hLsm a n y hy h1 h2 c' (by rw [hLT]; exact HNE.out) hz (1048576 - TT.size)
          rw [hLT, hTT] at this
          exact .inl this)
      have HCV : Hid (∀ W cap, BytesAt W wr.heap.size 0 (T.data.toList.set a c') → (convert 50 9 (.slice (some ⟨wr.heap.size, 0, none⟩) T.size cap)).run Tryz.prog W = .ok (.string TT) W) := Lib.hid (fun W cap h => by
        have := conv_bytesAt (cap := cap) h
        rw [hll, hTT] at this
        exact this)
      obtain ⟨r, hr⟩ : ∃ r : Nat, (a : Int) % 11 = (r : Int) := ⟨a % 11, by omega⟩
      have hr11 : r < 11 := by omega
      obtain ⟨F, hF⟩ : ∃ F, H.extract 0 r = F := ⟨_, rfl⟩
      have HFR2 := Lib.hid (HFR.out r (by omega))
      rw [hF] at HFR2
      have HV := Lib.hid (conv_str T)
      have HLT := Lib.hid hLT
      have HLA := Lib.hid hLA
      have HSM := Lib.hid hLsm
      have n2 : ((T.size : Int) == 0) = false := by rw [beq_eq_false_iff_ne]; omega
      have n3 : ¬ (T.size : Int) = 0 := by omega
      have i0 : (0 : Int) ≤ (a : Int) ∧ (a : Int) < (T.size : Int) := by omega
      have v1 := HV.out
      have hx : ((k : Int) < (len : Int) ∧ ¬ (k : Int) < 6) ∨ ¬ (k : Int) < (len : Int) := by omega
      clear hc' hcb hxz hin HC HBL HAD hLS hLT hLA hLsm hTT hll HFR hTTz
      rcases hx with ⟨j1, j2⟩ | j1
      all_goals
        go_wp2_with fail
        refine (s_jread HSR.out nLOG (by decide)).mono ?_
        rintro _ _ ⟨e, rfl⟩
        rw [RDT.out.1, RDT.out.2] at e
        subst e
        have d0 := HCELL.out wr
        have d1 := HFREE.out wr
        go_wp2_with fail
        have H6 := Lib.hid (HBY.out wr _ HSR.out.drop)
        clear d0 d1 v1
        generalize wr.heap.size = bb at *
        go_loopw [20, 21] (fun fv nv wr2 => ∃ n : Nat, nv = .int .i64 n ∧ fv = .int .i64 ((leavesS (LS.take n)).size : Nat) ∧ n ≤ A.length ∧ (leavesS (LS.take n)).size ≤ a ∧ Hid (Sp w wr2 [bts bb (T.data.toList.set a c'), ri ve (lensL LS)])) (fun _ nv _ => A.length - (intOf nv).toNat)
        case atStart => exact ⟨0, rfl, rfl, Nat.zero_le _, Nat.zero_le _, H6⟩
        case round =>
          obtain ⟨n, rfl, rfl, hn, hP, HN⟩ := hrel
          obtain ⟨y, hy⟩ : ∃ y, LS[n]? = some y := ⟨_, List.getElem?_eq_getElem (by have := HLA.out; omega)⟩
          have HLz : Hid ((lensL LS).length = A.length + 1) := Lib.hid (by unfold lensL; rw [List.length_map]; exact HLA.out)
          obtain ⟨g2, cap2, hv2, hlc2, hc2⟩ := ints_cells HN.out.swap.ints (by rw [HLz.out]; omega)
          subst hv2
          have q := hc2 n _ (lensL_get LS n y hy)
          have hstep := spo_step LS n y hy
          have hys : y.size ≤ 400000 := HSM.out y (List.mem_of_getElem? hy)
          have hyz := leafS_size hys
          have hpt : (leavesS (LS.take n)).size + (leafS y).size ≤ T.size := by
            rw [← HLT.out, leavesS_split LS n y hy, ByteArray.size_append, ByteArray.size_append]
            omega
          have hzone := HOP.out n y hy hP
          have hbytes := spo_byte LS n y hy hys
          have hlast : n = A.length → (leavesS (LS.take (n + 1))).size = T.size := fun e => by
            rw [List.take_of_length_le (by rw [HLA.out, e]; exact Nat.le_refl _), HLT.out]
          rw [HLT.out] at hbytes
          generalize Lib.nDigits y.size = D at *
          generalize hPn : (leavesS (LS.take n)).size = Pn at *
          generalize hQ : (leafS y).size = Q at *
          have n0 : (0 : Int) ≤ (n : Int) := by omega
          have n1 : (n : Int) < ((lensL LS).length : Int) := by rw [HLz.out]; omega
          by_cases hle : Pn + Q ≤ a
          · have hnA : n + 1 ≤ A.length := by
              have : ¬ n = A.length := fun e => by
                have := hlast e
                omega
              omega
            have HST := Lib.hid hstep
            have e1 : (Pn : Int) + (Q : Int) ≤ (a : Int) := by omega
            have z1 : (Pn : Int) + (Q : Int) ≤ 2000 := by omega
            clear hstep hbytes hzone hlast hc2 hyz hPn hQ
            go_wp2_with fail
            go_roundw
            case rel => exact ⟨n + 1, by go_num, by rw [HST.out]; go_num, hnA, by rw [HST.out]; exact hle, HN⟩
            case measure => simp [intOf]; omega
          · have HZ := Lib.hid (hzone (by omega))
            have HBS := Lib.hid hbytes
            have e1 : ¬ (Pn : Int) + (Q : Int) ≤ (a : Int) := by omega
            have z1 : (Pn : Int) + (Q : Int) ≤ 2000 := by omega
            have z2 : Pn + 9 + D ≤ T.size := by omega
            clear hstep hbytes hzone hlast hc2 hyz hPn hQ
            go_wp2_with fail
            go_loopw [22] (fun cv wr3 => ∃ jj : Nat, cv = .int .i64 ((Pn + 8 + jj : Nat)) ∧ jj ≤ D ∧ Hid (Sp w wr3 [bts bb (T.data.toList.set a c'), ri (.slice (some ⟨g2, 0, none⟩) (lensL LS).length cap2) (lensL LS)])) (fun cv _ => Pn + 8 + D - (intOf cv).toNat)
            case atStart => exact ⟨0, by go_num, Nat.zero_le _, HN⟩
            case round =>
              obtain ⟨jj, rfl, hjj, HM⟩ := hrel
              obtain ⟨cN, hcN⟩ : ∃ cN, Pn + 8 + jj = cN := ⟨_, rfl⟩
              have hlt : cN < T.size := by omega
              have hb : (T[cN]'hlt).toNat = 58 ↔ jj = D := by
                obtain ⟨c1, h1, h2⟩ := HBS.out jj hjj
                rw [hcN, List.getElem?_eq_getElem (show cN < T.data.toList.length from hlt)] at h1
                rw [← h2, ← Option.some.inj h1]
                exact Iff.rfl
              rw [hcN]
              have c0 : (0 : Int) ≤ (cN : Int) := by omega
              have c1 : (cN : Int) < (T.size : Int) := by omega
              by_cases hjD : jj = D
              · have b58 : (T[cN]'hlt).toNat = 58 := hb.2 hjD
                have b59 : (((T[cN]'hlt).toNat : Nat) : Int) = 58 := by omega
                have b60 : ((((T[cN]'hlt).toNat : Nat) : Int) != 58) = false := by rw [bne_eq_false_iff_eq]; exact b59
                have HCD : Hid (cN = Pn + 8 + D) := Lib.hid (by omega)
                clear hb hcN hjD
                go_wp2_with fail
                refine (s_new 1048576 HM.out).mono ?_
                rintro _ w11 ⟨d, rfl, h11⟩
                rw [hr3.out] at h11
                have H11 := Lib.hid h11
                clear h11
                have v2 := HCV.out w11
                have v3 := fun cap => v2 cap H11.out.swap.bytes
                clear v2
                go_wp2_with fail
                refine (s_write H11.out (Nat.zero_le _) nLOG TT (by decide)).mono ?_
                rintro _ w12 ⟨e, h12⟩
                rw [WR.out] at e h12
                subst e
                have H12 := Lib.hid h12
                clear h12 v3
                go_wp2_with fail
                refine (s_open H12.out HL.out (one_len _ _ _ _)).mono ?_
                rintro xe w13 h13
                have hq : ∃ (LR : List It) (jv : Value) (fv : Int), (fv = 3 ∨ (¬ fv = 3 ∧ Pn + 8 ≤ a ∧ a < Pn + 9 + D)) ∧ xe = .returned (.tuple #[jv, .int .i64 fv]) ∧ Sp w w13 LR := by
                  have hz := HZ.out
                  rcases h13 with ⟨_, h1, h2⟩ | ⟨h0, j2, h1, h2⟩
                  · refine ⟨_, _, _, ?_, h1, h2⟩
                    by_cases h3 : (openS (one (1048576 - TT.size) TT 0 false)).1 = 3
                    · exact .inl h3
                    · rcases hz with h | h
                      · exact absurd h h3
                      · exact .inr ⟨h3, h⟩
                  · refine ⟨_, _, 0, ?_, h1, h2⟩
                    rcases hz with h | h
                    · rw [h] at h0
                      exact absurd h0 (by decide)
                    · exact .inr ⟨by decide, h⟩
                obtain ⟨LR, jv, fv, hfv, rfl, h14⟩ := hq
                have H14 := Lib.hid h14
                clear h13 h14
                go_wp2_with fail
                refine (s_new 1000 H14.out).mono ?_
                rintro _ w15 ⟨gg, rfl, h15⟩
                rw [hr4.out] at h15
                have H15 := Lib.hid h15
                clear h15
                go_wp2_with fail
                refine (RL.out _).mono ?_
                rintro _ w16 ⟨rfl, hb16⟩
                have H16 := Lib.hid (H15.out.below hb16)
                clear hb16
                go_wp2_with fail
                refine (s_write H16.out (Nat.zero_le _) nLOG F (by decide)).mono ?_
                rintro _ w17 ⟨e, h17⟩
                rw [HFR2.out.1] at e h17
                subst e
                have H17 := Lib.hid h17
                clear h17
                go_wp2_with fail
                refine (s_open H17.out HL.out (one_len _ _ _ _)).mono ?_
                rintro xe w18 h18
                have hq : ∃ (LR : List It) (jv : Value), xe = .returned (.tuple #[jv, .int .i64 3]) ∧ Sp w w18 LR := by
                  have hz := HFR2.out.2
                  rcases h18 with ⟨_, h1, h2⟩ | ⟨h0, j2, h1, h2⟩
                  · rw [hz] at h1
                    exact ⟨_, _, h1, h2⟩
                  · rw [hz] at h0
                    exact absurd h0 (by decide)
                obtain ⟨LR2, jv2, rfl, h19⟩ := hq
                have H19 := Lib.hid h19
                clear h18 h19
                rcases hfv with rfl | ⟨h3, hz1, hz2⟩
                · go_wp2_with fail
                  all_goals (go_ret; exact ⟨rfl, H19.out.bl⟩)
                · have f3 : (fv == 3) = false := by rw [beq_eq_false_iff_ne]; exact h3
                  have y1 : (Pn : Int) + 8 ≤ (a : Int) := by omega
                  have y2 : (a : Int) ≤ (cN : Int) := by have := HCD.out; omega
                  go_wp2_with fail
                  all_goals (go_ret; exact ⟨rfl, H19.out.bl⟩)
              · have b58 : ¬ (T[cN]'hlt).toNat = 58 := fun h => hjD (hb.1 h)
                have b59 : ¬ (((T[cN]'hlt).toNat : Nat) : Int) = 58 := by omega
                have b60 : ((((T[cN]'hlt).toNat : Nat) : Int) != 58) = true := by rw [bne_iff_ne]; exact b59
                clear hb
                go_wp2_with fail
                go_roundw
                case rel => exact ⟨jj + 1, by go_num, by omega, HM⟩
                case measure => simp [intOf]; omega


end Go.Proofs.YtaekieoingflaaaGreatDoor
