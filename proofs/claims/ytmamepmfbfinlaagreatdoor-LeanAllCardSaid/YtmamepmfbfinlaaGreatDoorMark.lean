/-
  What the laws of marks of bytes share: Cut, bytes out of texts, marks of them.
-/
import Derived.Test.YtmamepmfbfinlaaGreatDoorLaw1
import Derived.Test.YtmamepmfbfinlaaGreatDoorMath2
import Derived.Lib.QuietBelow
namespace Go.Proofs.YtmamepmfbfinlaaGreatDoor
open Go.RowKit Go.Proofs.Flo Go.Proofs.Cpl Go.Sort

/-- A text of at most n bytes. -/
def cutS (s : ByteArray) (n : Nat) : ByteArray := s.extract 0 (min s.size n)

theorem cutS_size (s : ByteArray) (n : Nat) : (cutS s n).size ≤ n := by
  unfold cutS
  rw [ByteArray.size_extract]
  omega

theorem cut_any (s : ByteArray) (n : Nat) (w : World) :
    Calls Tryz.prog 11 #[.string s, .int .i64 n] w fun e w' => e = .returned (.string (cutS s n)) ∧ w = w' := by
  have hb0 : (0 : Int) ≤ min (s.size : Int) (n : Int) := by omega
  have hb1 : min (s.size : Int) (n : Int) ≤ (s.size : Int) := by omega
  have hm : (min (s.size : Int) (n : Int)).toNat = min s.size n := by omega
  go_enter Tryz.func11, Tryz.ntmps11
  go_wp2
  go_ret
  exact ⟨rfl, rfl⟩

/-- '[]byte(s)'. -/
theorem conv_str (s : ByteArray) (w : World) : (convert 9 56 (.string s)).run Tryz.prog w = .ok (.slice (some ⟨w.heap.size, 0, none⟩) s.size (grownCap w s.size 0 5)) (Lib.bytesWorld w 5 s) :=
  Lib.run_convert_string_bytes (P := Tryz.prog) w 9 56 5 s (u := .string) Tryz.underlying9 Tryz.underlying56 Tryz.underlying5

theorem str_len (s : ByteArray) : s.data.toList.length = s.size := rfl

theorem bytesAt_str (w : World) (e : TypeId) (s : ByteArray) : BytesAt (Lib.bytesWorld w e s) w.heap.size 0 s.data.toList := by
  intro i h
  have hc := Lib.bytesWorld_cell w e s i h
  rw [Nat.zero_add, hc]
  simp [List.getD, List.getElem?_eq_getElem h]

theorem BytesAt.below {w w' : World} {b off : Nat} {l : List UInt8} (h : BytesAt w b off l) (hb : Below w.heap.size w w') (hs : b < w.heap.size) : BytesAt w' b off l := by
  intro i hi
  rw [hb.cell hs]
  exact h i hi

/-- The mark of the bytes of a text, in a world in which they lie. -/
theorem mark_str (s : ByteArray) (b n cap : Nat) (G : Int × Int) (hG : gon (0, 1) s.data.toList = G) (hn : s.size = n) (hs : s.size ≤ maxLen) (w : World) (h : BytesAt w b 0 s.data.toList) :
    Calls Tryz.prog 34 #[.slice (some ⟨b, 0, none⟩) n cap] w fun e w' => e = .returned (.complex .f64 (fk 0 G.1) (fk 0 G.2)) ∧ w = w' := by
  subst hn hG
  exact mark_gc b 0 cap s.data.toList hs w h

theorem on_str (z : Int × Int) (hz : Ok z) (s : ByteArray) (b n cap : Nat) (G : Int × Int) (hG : gon z s.data.toList = G) (hn : s.size = n) (hs : s.size ≤ maxLen) (w : World) (h : BytesAt w b 0 s.data.toList) :
    Calls Tryz.prog 53 #[.complex .f64 (fk 0 z.1) (fk 0 z.2), .slice (some ⟨b, 0, none⟩) n cap] w fun e w' => e = .returned (.complex .f64 (fk 0 G.1) (fk 0 G.2)) ∧ w = w' := by
  subst hn hG
  exact on_gc z b 0 cap s.data.toList hz hs w h

/-- The reference's mark. -/
theorem rmark_str (s : ByteArray) (G : Int × Int) (hG : gon (0, 1) s.data.toList = G) (hs : s.size ≤ maxLen) (w : World) :
    Calls Tryz.prog 26 #[.string s] w fun e w' => e = .returned (.agg #[.int .i64 G.1, .int .i64 G.2]) ∧ Below w.heap.size w w' := by
  subst hG
  exact rmark_any s hs w

theorem append_toList (a b : ByteArray) : (a ++ b).data.toList = a.data.toList ++ b.data.toList := by
  rw [ByteArray.data_append, Array.toList_append]

theorem append_size (a b : ByteArray) : (a ++ b).size = a.size + b.size := ByteArray.size_append

theorem bytesWorld_free (w : World) (e : TypeId) (s : ByteArray) (k : Nat) (h : k < s.size) : (Lib.bytesWorld w e s).frozen? ⟨w.heap.size, k, none⟩ = false := by
  unfold World.frozen?
  rw [Lib.bytesWorld_at_new]
  have hs : s.size ≤ (Lib.bytesCells w e s).size := by
    unfold Lib.bytesCells
    rw [Array.size_append, Array.size_map]
    exact Nat.le_add_right _ _
  simp only
  have : ¬ (Lib.bytesCells w e s).size ≤ k := by omega
  simp [this]

theorem BytesAt.set {w : World} {b : Nat} {l : List UInt8} (h : BytesAt w b 0 l) (k : Nat) (hk : k < l.length) (c : UInt8) : BytesAt (w.setCell ⟨b, k, none⟩ (.int .u8 (c.toNat : Int))) b 0 (l.set k c) := by
  intro i hi
  rw [List.length_set] at hi
  have hc := h i hi
  have hck := h k hk
  rw [Nat.zero_add] at hc hck ⊢
  by_cases e : i = k
  · subst e
    rw [List.getElem_set_self]
    go_simp
  · rw [List.getElem_set_ne (fun g => e g.symm)]
    go_simp

theorem set_split (l : List UInt8) (k : Nat) (hk : k < l.length) (c : UInt8) : l.set k c = l.take k ++ c :: l.drop (k + 1) := by
  rw [List.set_eq_take_append_cons_drop, if_pos hk]

theorem self_split (l : List UInt8) (k : Nat) (hk : k < l.length) : l = l.take k ++ l[k] :: l.drop (k + 1) := by
  rw [← List.drop_eq_getElem_cons hk, List.take_append_drop]

/-- A byte turned: the mark is another one, or it is the same byte. -/
theorem mark_turned (l : List UInt8) (k : Nat) (hk : k < l.length) (c : UInt8) : gon (0, 1) (l.set k c) = gon (0, 1) l ↔ c = l[k] := by
  rw [set_split l k hk c]
  conv => lhs; rhs; rw [self_split l k hk]
  exact gon_turn _ _ _ _ _


theorem self_split2 (l : List UInt8) (k : Nat) (hk : k + 1 < l.length) : l = l.take k ++ l[k] :: l[k + 1] :: l.drop (k + 2) := by
  rw [← List.drop_eq_getElem_cons hk, ← List.drop_eq_getElem_cons (show k < l.length by omega), List.take_append_drop]

theorem swap_split (l : List UInt8) (k : Nat) (hk : k + 1 < l.length) (c d : UInt8) : (l.set k d).set (k + 1) c = l.take k ++ d :: c :: l.drop (k + 2) := by
  rw [set_split (l.set k d) (k + 1) (by rw [List.length_set]; exact hk) c, List.drop_set_of_lt (by omega), set_split l k (by omega) d]
  rw [List.take_append, List.length_take, Nat.min_eq_left (by omega), List.take_of_length_le (by rw [List.length_take]; omega)]
  rw [show k + 1 - k = 1 from by omega]
  simp

/-- Two bytes that changed places: the mark is another one, or they are the same. -/
theorem mark_swapped (l : List UInt8) (k : Nat) (hk : k + 1 < l.length) : gon (0, 1) ((l.set k l[k + 1]).set (k + 1) l[k]) = gon (0, 1) l ↔ l[k] = l[k + 1] := by
  rw [swap_split l k hk]
  conv => lhs; rhs; rw [self_split2 l k hk]
  exact gon_swap _ _ _ _ _

end Go.Proofs.YtmamepmfbfinlaaGreatDoor
